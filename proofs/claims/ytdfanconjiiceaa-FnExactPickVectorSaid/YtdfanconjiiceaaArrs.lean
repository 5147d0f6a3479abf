/- What arrays of the program does: the arrays that lie one behind another, cut off one by one. -/
import Derived.Test.YtdfanconjiiceaaTakeP
import Derived.Test.YtdfanconjiiceaaClone2
import Derived.Deep.CutRange
import Derived.Deep.DeepCutAuto
import Derived.Deep.RegionLaw
namespace Go.Proofs.Ytdfanconjiiceaa
open Go.RowKit

theorem infoF : (Try.prog.info? 70).map (fun i => (i.zero, i.size, i.bytes)) = some (some (.agg #[.slice none 0 0, .slice none 0 0]), 2, 48) := by kernel_rfl

/-- Levels that lie below block B. -/
def LvB (B : Nat) (w : World) (d : Nat) (ts : List (T d)) (R : Option Addr) (cR : Nat) : Prop :=
  (R = none ∧ cR = 0 ∧ d = 0) ∨ ∃ (b off : Nat) (vs : List Value), R = some ⟨b, off, none⟩ ∧ b < w.heap.size ∧ vs.length = d ∧ (∀ (j : Nat) (v : Value), vs[j]? = some v → w.cell? ⟨b, off + j, none⟩ = some v) ∧ ∀ (i : Nat) (L : List Int), (lv d ts)[i]? = some L → ∃ v, vs[i]? = some v ∧ SlB B w v L
theorem slb_up {B B' : Nat} {w : World} {v : Value} {zs : List Int} (h : SlB B w v zs) (hb : B ≤ B') : SlB B' w v zs := by
  obtain ⟨A, c, rfl, h1, h2, h3⟩ := h
  refine ⟨A, c, rfl, h1, h2, fun a ha => ?_⟩
  obtain ⟨b, off, h4, h5, h6⟩ := h3 a ha
  exact ⟨b, off, h4, by omega, h6⟩
theorem slb_gr {B : Nat} {w w' : World} {v : Value} {zs : List Int} (h : SlB B w v zs) (hg : w.grownBy w' none) : SlB B w' v zs := h.low (LowK.of hg (by simp))
theorem lvb_gr {B : Nat} {w w' : World} {d : Nat} {ts : List (T d)} {R : Option Addr} {cR : Nat} (h : LvB B w d ts R cR) (hg : w.grownBy w' none) : LvB B w' d ts R cR := by
  rcases h with h | ⟨b, off, vs, hR, hb, hl, hc, hs⟩
  · exact .inl h
  · exact .inr ⟨b, off, vs, hR, Nat.lt_of_lt_of_le hb hg.size, hl, fun j v hj => hg.cell (hc j v hj) (by simp), fun i L hL => by
      obtain ⟨v, hv, hv2⟩ := hs i L hL
      exact ⟨v, hv, slb_gr hv2 hg⟩⟩
theorem clone3_any (B d : Nat) (ts : List (T d)) (R : Option Addr) (cR : Nat) (w : World) (h : LvB B w d ts R cR) (hd : d ≤ 3) :
    Calls Try.prog 90 #[.slice R d cR] w fun e w' => ∃ A c', e = .returned (.slice A d c') ∧ w.grownBy w' none ∧ ∃ us, w'.ownsRow w.heap.size 23 1 (.slice A d c') d us ∧ ∀ (i : Nat) (L : List Int), (lv d ts)[i]? = some L → ∃ v, us[i]? = some v ∧ SlB B w' v L := by
  rcases h with ⟨rfl, rfl, rfl⟩ | ⟨b, off, vs, rfl, hb, hl, hc, hs⟩
  · refine (clone2_nil w).mono ?_
    rintro e w' ⟨rfl, rfl⟩
    exact ⟨none, 0, rfl, gr_refl _ _, [], World.ownsRow_nil _ _ _ _, fun i L hL => by simp [lv] at hL⟩
  · have hone : ∀ v ∈ vs, v.oneCell' = true := fun v hv => by
      obtain ⟨i, hi⟩ := List.getElem?_of_mem hv
      have hil : i < (lv d ts).length := by rw [lv_len]; have := (List.getElem?_eq_some_iff.1 hi).1; omega
      obtain ⟨v', hv', A, c, rfl, _⟩ := hs i _ (List.getElem?_eq_getElem hil)
      rw [hi] at hv'
      cases hv'
      rfl
    have := clone2_some b off cR vs w hc hone (by omega)
    rw [hl] at this
    refine this.mono ?_
    rintro e w' ⟨A, c', rfl, hg, ho⟩
    exact ⟨A, c', rfl, hg, vs, ho, fun i L hL => by
      obtain ⟨v, hv, hv2⟩ := hs i L hL
      exact ⟨v, hv, slb_gr hv2 hg⟩⟩

theorem gr_drew1 (w : World) : w.grownBy w.drew none := ⟨rfl, rfl, rfl, Nat.le_refl _, fun _ _ _ => rfl⟩
/-- The arrays in a row of structs. -/
def ArrsAt (base B d : Nat) (ts : List (T d)) (j : Nat) (w : World) (ga c : Nat) : Prop :=
  ∃ cur : Array Value, w.heap[ga]? = some (.cells cur 70 (0, 0)) ∧ cur.size = c * 2 ∧ ∀ (k : Nat) (t : T d), k < j → ts[k]? = some t → ∃ x y, cur[k * 2]? = some x ∧ cur[k * 2 + 1]? = some y ∧ ArF base B d t w x y

theorem arf_at {base B d g : Nat} {t : T d} {w w' : World} {x y : Value} (h : ArF base B d t w x y) (hg : w.grownBy w' (some g)) (h1 : B ≤ g) (h2 : g < base) : ArF base B d t w' x y := by
  obtain ⟨hx, P, cP, ps, rfl, ho, hp⟩ := h
  have hl : LowK B w w' := LowK.of hg (fun k e => by cases e; exact h1)
  refine ⟨hx.low hl, P, cP, ps, rfl, own_keep ho (fun q hq => ?_), fun i L hL => ?_⟩
  · have := ho.lt q hq
    exact hg.block q this.2 (fun e => by cases e; omega)
  · obtain ⟨v, hv, hs⟩ := hp i L hL
    exact ⟨v, hv, hs.low hl⟩
theorem restst_new {B gr gR d : Nat} {ts : List (T d)} {w w' : World} (h : RestSt B gr gR d ts w) (hg : w.grownBy w' none) : RestSt B gr gR d ts w' := by
  obtain ⟨Bd, cB, R, cR, us, hp, hR, ho, hus, hsd⟩ := h
  exact ⟨Bd, cB, R, cR, us, hp.grown hg (by simp), hR, own_keep ho (fun q hq => hg.block q (ho.lt q hq).2 (by simp)), fun i L hL => by
    obtain ⟨v, hv, hs⟩ := hus i L hL
    exact ⟨v, hv, slb_gr hs hg⟩, slb_gr hsd hg⟩
theorem restst_at {B gr gR d ga : Nat} {ts : List (T d)} {w w' : World} {cur : Array Value} (h : RestSt B gr gR d ts w) (hg : w.grownBy w' (some ga)) (hc : w.heap[ga]? = some (.cells cur 70 (0, 0))) (h1 : gr ≠ ga) (h2 : B ≤ ga) : RestSt B gr gR d ts w' := by
  obtain ⟨Bd, cB, R, cR, us, hp, hR, ho, hus, hsd⟩ := h
  have hl : LowK B w w' := LowK.of hg (fun k e => by cases e; exact h2)
  refine ⟨Bd, cB, R, cR, us, hp.grown hg (by simpa using h1), hR, own_keep ho (fun q hq => hg.block q (ho.lt q hq).2 (fun e => ?_)), fun i L hL => by
    obtain ⟨v, hv, hs⟩ := hus i L hL
    exact ⟨v, hv, hs.low hl⟩, hsd.low hl⟩
  cases e
  rcases ho.2 with ⟨hv, _⟩ | ⟨b, cap, cur2, hv, _, hb, _⟩
  · cases hv; cases hq
  · cases hv
    simp only [Value.ownBlock, Option.some.injEq] at hq
    subst hq
    rw [hc] at hb
    cases hb
theorem okl_drop {d : Nat} : ∀ (j : Nat) (ts : List (T d)), OkL (lv d ts) → OkL (lv d (ts.drop j))
  | 0, _, h => h
  | _ + 1, [], h => h
  | j + 1, _ :: ts, h => okl_drop j ts (okl_tail h)
theorem ArrsAt.start (base B d : Nat) (ts : List (T d)) (w : World) (n : Nat) : ArrsAt base B d ts 0 (w.alloc (.cells (madeCells #[.slice none 0 0, .slice none 0 0] (n * 2)) 70)) w.heap.size n :=
  ⟨_, heap_alloc_new w _, by simp [madeCells], fun k t hk => by omega⟩
theorem ArrsAt.cell {base B d : Nat} {ts : List (T d)} {j : Nat} {w : World} {ga c : Nat} (h : ArrsAt base B d ts j w ga c) {i : Nat} (hi : i < c * 2) : ∃ v, w.cell? ⟨ga, i, none⟩ = some v ∧ w.frozen? ⟨ga, i, none⟩ = false := by
  obtain ⟨cur, hc, hs, _⟩ := h
  have hx : ∃ v, cur[i]? = some v := ⟨_, Array.getElem?_eq_getElem (by omega)⟩
  obtain ⟨v, hv⟩ := hx
  exact ⟨v, by rw [cell_of_row w ga i _ _ (0, 0) hc]; exact hv, by simp [World.frozen?, hc]⟩
theorem ArrsAt.step {base B d : Nat} {ts : List (T d)} {j : Nat} {w w2 : World} {ga c gr gR : Nat} {t : T d} {x y : Value} (h : ArrsAt base B d ts j w ga c) (hk : KpX gr gR w.heap.size w w2) (ha : ArF w.heap.size B d t w2 x y) (ht : ts[j]? = some t) (hj : j < c)
    (h1 : B ≤ gr) (h2 : B ≤ gR) (h3 : gr < ga) (h4 : gR < ga) (h5 : base = ga + 1) : ArrsAt base B d ts (j + 1) ((w2.setCell ⟨ga, j * 2, none⟩ x).setCell ⟨ga, j * 2 + 1, none⟩ y) ga c := by
  obtain ⟨cur, hc, hs, hk2⟩ := h
  have hlt : ga < w.heap.size := (Array.getElem?_eq_some_iff.1 hc).1
  have hc2 : w2.heap[ga]? = some (.cells cur 70 (0, 0)) := (hk.block ga (by omega) (by omega) hlt).trans hc
  have hgr : w2.grownBy ((w2.setCell ⟨ga, j * 2, none⟩ x).setCell ⟨ga, j * 2 + 1, none⟩ y) (some ga) := (gr_set w2 ga (j * 2) x).trans (gr_set _ ga (j * 2 + 1) y)
  refine ⟨(cur.setIfInBounds (j * 2) x).setIfInBounds (j * 2 + 1) y, by simp [World.setCell, Array.getElem?_modify, hc2], by simp [hs], fun k t' hk' ht' => ?_⟩
  by_cases hkj : k = j
  · subst hkj
    rw [ht] at ht'
    cases ht'
    refine ⟨x, y, ?_, ?_, arf_at (ha.low (by omega)) hgr (by omega) (by omega)⟩
    · rw [Array.getElem?_setIfInBounds_ne (by omega), Array.getElem?_setIfInBounds_self, if_pos (by omega)]
    · rw [Array.getElem?_setIfInBounds_self, if_pos (by simp; omega)]
  · obtain ⟨x', y', hx', hy', ha'⟩ := hk2 k t' (by omega) ht'
    refine ⟨x', y', ?_, ?_, arf_at (ha'.kept hk h1 h2 (by omega) (by omega) (Nat.le_refl _) (by omega)) hgr (by omega) (by omega)⟩
    · rw [Array.getElem?_setIfInBounds_ne (by omega), Array.getElem?_setIfInBounds_ne (by omega)]; exact hx'
    · rw [Array.getElem?_setIfInBounds_ne (by omega), Array.getElem?_setIfInBounds_ne (by omega)]; exact hy'
theorem ArrsAt.low {base base' B d : Nat} {ts : List (T d)} {j : Nat} {w : World} {ga c : Nat} (h : ArrsAt base B d ts j w ga c) (hb : base' ≤ base) : ArrsAt base' B d ts j w ga c := by
  obtain ⟨cur, hc, hs, hk⟩ := h
  exact ⟨cur, hc, hs, fun k t h1 h2 => by
    obtain ⟨x, y, hx, hy, ha⟩ := hk k t h1 h2
    exact ⟨x, y, hx, hy, ha.low hb⟩⟩
theorem kpx_gr {g gR : Nat} {w w1 w2 : World} (h : w.grownBy w1 none) (hk : KpX g gR w1.heap.size w1 w2) (h1 : w.heap.size ≤ g) (h2 : w.heap.size ≤ gR) : w.grownBy w2 none :=
  ⟨hk.os.trans h.os, hk.tape.trans h.tape, hk.output.trans h.output, Nat.le_trans h.size hk.size, fun k hk2 _ => (hk.block k (by omega) (by omega) (Nat.lt_of_lt_of_le hk2 h.size)).trans (h.block k hk2 (by simp))⟩
/-- Where the rest lies when the arrays have been copied. -/
def CutSt (w : World) (d : Nat) (ts : List (T d)) (Bd : Option Addr) (m cB : Nat) (v5 : Value) (wx : World) : Prop :=
  ∃ (gr : Nat) (A : Option Addr) (c' : Nat), v5 = .pointer (some ⟨gr, 0, none⟩) ∧ Hid (w.grownBy wx none) ∧ w.heap.size ≤ gr ∧ Hid (Pr wx gr 70 (.slice Bd m cB) (.slice A d c')) ∧ Hid (∃ us, wx.ownsRow w.heap.size 23 1 (.slice A d c') d us ∧ ∀ (i : Nat) (L : List Int), (lv d ts)[i]? = some L → ∃ v, us[i]? = some v ∧ SlB w.heap.size wx v L)
theorem cutst_a {w w5 : World} {d : Nat} {ts : List (T d)} {Bd A5 : Option Addr} {m cB c5 : Nat} (hg : w.grownBy w5 none) (ho : ∃ us, w5.ownsRow w.heap.size 23 1 (.slice A5 d c5) d us ∧ ∀ (i : Nat) (L : List Int), (lv d ts)[i]? = some L → ∃ v, us[i]? = some v ∧ SlB w.heap.size w5 v L) :
    CutSt w d ts Bd m cB (.pointer (some ⟨w5.heap.size, 0, none⟩)) (w5.alloc (.cells #[.slice Bd m cB, .slice A5 d c5] 70)) := by
  obtain ⟨us, h1, h2⟩ := ho
  have ha := World.grownBy_alloc w5 (.cells #[.slice Bd m cB, .slice A5 d c5] 70) none
  exact ⟨_, A5, c5, rfl, Lib.hid (hg.trans ha), hg.size, Lib.hid (Pr.new _ _ _ _), Lib.hid ⟨us, own_keep h1 (fun q hq => ha.block q (h1.lt q hq).2 (by simp)), fun i L hL => by
    obtain ⟨v, hv, hs⟩ := h2 i L hL
    exact ⟨v, hv, slb_gr hs ha⟩⟩⟩
theorem cutst_b {w w5 : World} {d g : Nat} {ts : List (T d)} {Bd A5 : Option Addr} {m cB c5 : Nat} (hg : w.grownBy w5 none) (hgg : w.heap.size ≤ g) (hp : Pr w5 g 70 (.slice none 0 0) (.slice none 0 0)) (ho : ∃ us, w5.ownsRow (g + 1) 23 1 (.slice A5 d c5) d us ∧ ∀ (i : Nat) (L : List Int), (lv d ts)[i]? = some L → ∃ v, us[i]? = some v ∧ SlB w.heap.size w5 v L) :
    CutSt w d ts Bd m cB (.pointer (some ⟨g, 0, none⟩)) ((w5.setCell ⟨g, 0, none⟩ (.slice Bd m cB)).setCell ⟨g, 1, none⟩ (.slice A5 d c5)) := by
  obtain ⟨us, h1, h2⟩ := ho
  have ha := (gr_set w5 g 0 (.slice Bd m cB)).trans (gr_set _ g 1 (.slice A5 d c5))
  refine ⟨_, A5, c5, rfl, Lib.hid (gr_ownF hg ha (fun k e => by cases e; exact hgg)), hgg, Lib.hid ((hp.set0 _).set1 _), Lib.hid ⟨us, own_base (own_keep h1 (fun q hq => ha.block q (h1.lt q hq).2 (fun e => ?_))) (by omega), fun i L hL => ?_⟩⟩
  · cases e
    have := (h1.lt _ hq).1
    omega
  · obtain ⟨v, hv, hs⟩ := h2 i L hL
    exact ⟨v, hv, hs.low (LowK.of ha (fun k e => by cases e; exact hgg))⟩

set_option maxRecDepth 100000 in
set_option maxHeartbeats 4000000 in
theorem arrays_any (d : Nat) (ts : List (T d)) (Bd R : Option Addr) (cB cR : Nat) (w : World) (hd : d ≤ 3) (hsd : SlB w.heap.size w (.slice Bd (dat d ts).length cB) (dat d ts)) (hlv : LvB w.heap.size w d ts R cR) (hok : OkL (lv d ts)) (hn : ts.length ≤ 1048576) :
    Calls Try.prog 56 #[.agg #[.slice Bd (dat d ts).length cB, .slice R d cR], .int .i64 (ts.length : Int)] w fun e w' => ∃ ga, e = .returned (.slice (some ⟨ga, 0, none⟩) ts.length ts.length) ∧ w.grownBy w' none ∧ w.heap.size ≤ ga ∧ ArrsAt w.heap.size w.heap.size d ts ts.length w' ga ts.length := by
  obtain ⟨i0, hi0, hz0, hz1, hz2⟩ : ∃ i : TypeInfo, Try.prog.info? 70 = some i ∧ i.zero = some (.agg #[.slice none 0 0, .slice none 0 0]) ∧ i.size = 2 ∧ i.bytes = 48 := by
    obtain ⟨i, hi, hzz⟩ := Option.map_eq_some_iff.1 infoF
    simp only [Prod.mk.injEq] at hzz
    exact ⟨i, hi, hzz.1, hzz.2.1, hzz.2.2⟩
  obtain ⟨m, hm⟩ : ∃ m, (dat d ts).length = m := ⟨_, rfl⟩
  obtain ⟨n, hnn⟩ : ∃ n, ts.length = n := ⟨_, rfl⟩
  have HM := Lib.hid hm
  have HN := Lib.hid hnn
  rw [hm] at hsd ⊢
  rw [hnn] at hn ⊢
  have hmk : ∀ u : World, (Instr.makeSlice 82 (.int .i64 (n : Int)) (.int .i64 (n : Int))).run Try.prog u =
      .ok (.slice (some ⟨u.heap.size, 0, none⟩) n n) (u.alloc (.cells (madeCells #[.slice none 0 0, .slice none 0 0] (n * 2)) 70)) := fun u => by
    have h := run_make (P := Try.prog) u 82 70 i0 (.agg #[.slice none 0 0, .slice none 0 0]) Try.underlying82 hi0 hz0 .i64 .i64 (n : Int) (n : Int) (by omega) (Int.le_refl _) (by rw [hz2]; omega) (by omega)
    simpa [hz1, Value.cells] using h
  have hg0 := World.grownBy_alloc w (.cells #[.slice Bd m cB, .slice R d cR] 70) none
  have HCL := Lib.hid (fun u (hg : w.grownBy u none) => clone3_any w.heap.size d ts R cR u (lvb_gr hlv hg) hd)
  have HSD := Lib.hid (fun u (hg : w.grownBy u none) => slb_gr hsd hg)
  have HOK := Lib.hid hok
  have HP := Lib.hid (Pr.new w 70 (.slice Bd m cB) (.slice R d cR))
  have HG0 := Lib.hid hg0
  clear hsd hlv hok hm hnn hg0
  go_enter Try.func56, Try.ntmps56
  go_upto_region 1 with fail
  go_cut [5] from 8 to 13 (CutSt w d ts Bd m cB)
  case first =>
    have c0 := HP.out.c0
    have c1 := HP.out.c1
    obtain ⟨wo, hwo⟩ : ∃ wo, w.alloc (.cells #[.slice Bd m cB, .slice R d cR] 70) = wo := ⟨_, rfl⟩
    rw [hwo] at HP HG0 c0 c1 ⊢
    clear hwo
    have HPA := HP.out.alloc (.cells #[.slice none 0 0, .slice none 0 0] 70)
    have c0a := HPA.c0
    have c1a := HPA.c1
    clear HPA
    go_region_law (first
      | (go_simp
         go_at_call 90
         refine (HCL.out wo.drew (HG0.out.trans (gr_drew1 wo))).mono ?_
         rintro e w5 ⟨A5, c5, rfl, hg5, us5, how5, hsv5⟩
         have HG5 := Lib.hid (HG0.out.trans ((gr_drew1 wo).trans hg5))
         have HO5 := Lib.hid (show ∃ us, w5.ownsRow w.heap.size 23 1 (.slice A5 d c5) d us ∧ ∀ (i : Nat) (L : List Int), (lv d ts)[i]? = some L → ∃ v, us[i]? = some v ∧ SlB w.heap.size w5 v L from ⟨us5, own_base how5 HG0.out.size, hsv5⟩)
         have hp5 := HP.out.grown ((gr_drew1 wo).trans hg5) (by simp)
         have b0 := hp5.c0
         have b1 := hp5.c1
         have b0a := (hp5.alloc (.cells #[.slice none 0 0, .slice none 0 0] 70)).c0
         clear hg5 how5 hsv5 hp5)
      | (go_simp
         go_at_call 90
         have ha := (World.grownBy_alloc wo (.cells #[.slice none 0 0, .slice none 0 0] 70) none).trans (gr_drew1 _)
         refine (HCL.out _ (HG0.out.trans ha)).mono ?_
         rintro e w5 ⟨A5, c5, rfl, hg5, us5, how5, hsv5⟩
         have hp5 : Pr w5 wo.heap.size 70 (.slice none 0 0) (.slice none 0 0) := (Pr.new wo _ _ _).grown ((gr_drew1 _).trans hg5) (by simp)
         have HG5 := Lib.hid (HG0.out.trans (ha.trans hg5))
         have HO5 := Lib.hid (show ∃ us, w5.ownsRow (wo.heap.size + 1) 23 1 (.slice A5 d c5) d us ∧ ∀ (i : Nat) (L : List Int), (lv d ts)[i]? = some L → ∃ v, us[i]? = some v ∧ SlB w.heap.size w5 v L from ⟨us5, own_base how5 (by simp), hsv5⟩)
         have HP5 := Lib.hid hp5
         have b0 := (HP.out.grown (ha.trans hg5) (by simp)).c0
         have p0 := hp5.c0
         have p1 := hp5.c1
         have f0 := hp5.f 0
         have f1 := hp5.f 1
         clear ha hg5 how5 hsv5 hp5))
    all_goals
      go_wp2_with fail
      go_meet
      first | exact cutst_a HG5.out HO5.out | exact cutst_b HG5.out HG0.out.size HP5.out HO5.out
  case rest =>
    obtain ⟨gr, A, c', rfl, hgx, hgr, hpx, hox⟩ := hcut
    obtain ⟨gR, hgR1, hgR2, hgR3, hgR4⟩ : ∃ gR, (d = 0 → gR = gr) ∧ (d = 0 ∨ A = some ⟨gR, 0, none⟩) ∧ w.heap.size ≤ gR ∧ gR < wc.heap.size := by
      have hgl := hpx.out.lt
      by_cases hd0 : d = 0
      · exact ⟨gr, fun _ => rfl, .inl hd0, hgr, hgl⟩
      · obtain ⟨us, ho, _⟩ := hox.out
        have hlt := fun q hq => ho.lt q hq
        rcases ho.2 with ⟨hv, h0⟩ | ⟨b, cap, cur, hv, hb1, hb, _⟩
        · cases hv
          omega
        · cases hv
          have := hlt b rfl
          exact ⟨b, fun h => absurd h hd0, .inr rfl, this.1, this.2⟩
    have HR0 : Hid (RestSt w.heap.size gr gR d ts wc) := Lib.hid (by
      obtain ⟨us, ho, hs⟩ := hox.out
      exact ⟨Bd, cB, A, c', us, by rw [HM.out]; exact hpx.out, hgR2, ho, hs, by rw [HM.out]; exact HSD.out wc hgx.out⟩)
    have hgl := hpx.out.lt
    clear hpx hox HP HG0 HCL
    have ha := World.grownBy_alloc wc (.cells (madeCells #[.slice none 0 0, .slice none 0 0] (n * 2)) 70) none
    have HR1 := Lib.hid (restst_new HR0.out ha)
    have HG1 := Lib.hid (hgx.out.trans ha)
    have HA1 := Lib.hid (ArrsAt.start (wc.heap.size + 1) w.heap.size d ts wc n)
    clear HR0 ha
    go_wp2_with fail
    generalize wc.alloc (.cells (madeCells #[.slice none 0 0, .slice none 0 0] (n * 2)) 70) = w0 at HR1 HG1 HA1 ⊢
    have HTK := Lib.hid (fun (t : T d) (zs : List (T d)) (u : World) (h : RestSt w.heap.size gr gR d (t :: zs) u) (hk : OkL (lv d (t :: zs))) => takeP_any w.heap.size gr gR d t zs u h hgr hk hd hgR1)
    go_loopw [18] (fun i wr => ∃ j : Nat, j ≤ n ∧ i = .int .i64 j ∧ Hid (w.grownBy wr none) ∧ Hid (RestSt w.heap.size gr gR d (ts.drop j) wr) ∧ Hid (ArrsAt (wc.heap.size + 1) w.heap.size d ts j wr wc.heap.size n)) (fun i _ => n - (intOf i).toNat)
    case atStart => exact ⟨0, Nat.zero_le _, rfl, HG1, HR1, HA1⟩
    case round =>
      clear HG1 HR1 HA1
      obtain ⟨j, hj, rfl, hg, hr, har⟩ := hrel
      by_cases hlt : j < n
      · obtain ⟨t, ht⟩ : ∃ t, ts[j]? = some t := ⟨_, List.getElem?_eq_getElem (by have := HN.out; omega)⟩
        have hdrop : ts.drop j = t :: ts.drop (j + 1) := by
          obtain ⟨h1, h2⟩ := List.getElem?_eq_some_iff.1 ht
          rw [List.drop_eq_getElem_cons h1, h2]
        have hr1 := hr.out
        rw [hdrop] at hr1
        have hk1 := okl_drop j ts HOK.out
        rw [hdrop] at hk1
        have HC := Lib.hid (HTK.out t _ _ hr1 hk1)
        have HT := Lib.hid ht
        clear hr1 hk1 hdrop ht
        go_wp2_with fail
        refine HC.out.mono ?_
        rintro e w2 ⟨x, y, rfl, hkp, hr2, haf⟩
        obtain ⟨⟨ax, cx, hxx, _⟩, Py, cPy, _, hyy, _⟩ := id haf
        subst hxx
        subst hyy
        have hgl2 : wc.heap.size < wr.heap.size := by
          obtain ⟨cur, hc, _⟩ := har.out
          exact (Array.getElem?_eq_some_iff.1 hc).1
        obtain ⟨cur, hcur, hcs, hcr⟩ := har.out
        have hcur2 := (hkp.block wc.heap.size (by omega) (by omega) hgl2).trans hcur
        have q1 : ArrsAt (wc.heap.size + 1) w.heap.size d ts 0 w2 wc.heap.size n := ⟨cur, hcur2, hcs, fun k t hk => by omega⟩
        obtain ⟨v1, hv1, hf1⟩ := q1.cell (i := j * 2) (by omega)
        obtain ⟨v2, hv2, hf2⟩ := q1.cell (i := j * 2 + 1) (by omega)
        have HST := Lib.hid (har.out.step hkp haf HT.out hlt hgr hgR3 (by omega) (by omega) rfl)
        have HGG := Lib.hid (kpx_gr hg.out hkp hgr hgR3)
        have HR2 := Lib.hid (restst_at hr2 ((gr_set w2 wc.heap.size (j * 2) (.slice ax (dat d [t]).length cx)).trans (gr_set _ wc.heap.size (j * 2 + 1) (.slice Py d cPy))) hcur2 (by omega) (by omega))
        have hgs := (gr_set w2 wc.heap.size (j * 2) (.slice ax (dat d [t]).length cx)).trans (gr_set _ wc.heap.size (j * 2 + 1) (.slice Py d cPy))
        have HGS := Lib.hid (gr_ownF HGG.out hgs (fun k e => by cases e; omega))
        clear hkp hr2 haf q1 hcur hcr hcur2 hgs
        go_wp2_with fail
        go_roundw
        case rel => exact ⟨j + 1, by omega, by go_num, HGS, HR2, HST⟩
        case measure => simp [intOf]; omega
      · have hjn : j = n := by omega
        subst hjn
        go_wp2_with fail
        go_ret
        exact ⟨wc.heap.size, rfl, hg.out, by omega, har.out.low (by omega)⟩

end Go.Proofs.Ytdfanconjiiceaa
