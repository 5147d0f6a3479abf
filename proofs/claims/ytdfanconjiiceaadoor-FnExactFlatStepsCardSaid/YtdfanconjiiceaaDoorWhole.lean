/- What the reader of code has at the end. -/
import Derived.Test.YtdfanconjiiceaaDoorTakeC
import Derived.Deep.RegionLaw
import Derived.Test.YtdfanconjiiceaaDoorInsI
namespace Go.Proofs.YtdfanconjiiceaaDoor
section
open Go.RowKit

def lastb (c : Int) : Int := if c = 91 then 93 else 125
theorem lastb_any (c : Int) (w : World) :
    Calls Tryd.prog 38 #[.int .u8 c] w fun e w' => e = .returned (.int .u8 (lastb c)) ∧ w' = w := by
  unfold lastb
  by_cases h : c = 91
  · rw [if_pos h]
    subst h
    go_enter Tryd.func38, Tryd.ntmps38
    go_wp2_with fail
    go_ret
    exact ⟨rfl, rfl⟩
  · rw [if_neg h]
    have hb : (c == 91) = false := by simpa using h
    go_enter Tryd.func38, Tryd.ntmps38
    go_wp2_with fail
    go_ret
    exact ⟨rfl, rfl⟩

/-- Taking a loop that has begun, where it does not matter what is left. -/
theorem rs_outN {w : World} {n0 b : Nat} {m : MS} {v0 v1 : Value} {vs : List Value} {ps : List Pnd} (h : RS w n0 b m v0 v1 vs ps) (hl : ps.length ≤ 1000) :
    ∃ p q r, Calls Tryd.prog 49 #[.pointer (some ⟨b, 1, none⟩)] w fun e w' => (∃ A k c, e = .returned (.tuple #[.agg #[.pointer p, .slice A k c], .bool r]) ∧ q = Value.slice A k c) ∧ Chg (WX n0 w) w w' ∧ (r = true ↔ ps ≠ []) := by
  obtain ⟨A, k, c, hv⟩ := own_form h.row
  have ho := h.row
  have hb : CR w b v0 v1 := h.box
  subst hv
  obtain rfl := own_len ho
  cases ps with
  | nil =>
    refine ⟨none, .slice none 0 0, false, (pop_o_none b A c v0 w hb).mono ?_⟩
    rintro e w' ⟨rfl, hg⟩
    exact ⟨⟨_, _, _, rfl, rfl⟩, Chg.grown hg, by simp⟩
  | cons p ps =>
    obtain ⟨o, hoo⟩ := h.outs.mem p (by simp)
    obtain ⟨A2, k2, c2, hlv⟩ := own_form hoo.row.1
    have ho2 : w.ownsRow n0 117 2 (.slice A (ps.length + 1) c) (ps.length + 1) (flatP ps ++ [.pointer (some ⟨p.blk, 0, none⟩), .slice A2 k2 c2]) := by rw [← hlv]; exact ho
    refine ⟨some ⟨p.blk, 0, none⟩, p.lv, true, (pop_o_some n0 b A ps.length c v0 ⟨p.blk, 0, none⟩ A2 k2 c2 (flatP ps) w hb ho2 (by simp at hl; omega)).mono ?_⟩
    rintro e w' ⟨rfl, hc, _⟩
    exact ⟨⟨_, _, _, rfl, hlv⟩, chgX_of hc (fun k _ e => rs_wx h k (.inl e)), by simp⟩

theorem rs_drew {w : World} {n0 b k : Nat} {m : MS} {v0 v1 : Value} {vs : List Value} {ps : List Pnd} (h : RS w n0 b m v0 v1 vs ps) : RS (w.drewN k) n0 b m v0 v1 vs ps := h.grown (gr_drewN w k none)

/-- popOnly of the reader's terms. -/
theorem rs_only {w : World} {n0 b : Nat} {m : MS} {v0 v1 : Value} {vs : List Value} {ps : List Pnd} (h : RS w n0 b m v0 v1 vs ps) (hl : m.1.length ≤ 1000) :
    ∃ x : Value, (x = .nilIface ∨ ∃ ty pv, x = .iface ty pv) ∧ Calls Tryd.prog 50 #[.pointer (some ⟨b, 0, none⟩)] w fun e w' =>
      e = .returned (.tuple #[x, .bool (decide (m.1.length = 1))]) ∧ Chg (WX n0 w) w w' ∧ ∃ u vs', RS w' n0 b (m.1.tail, m.2) u v1 vs' ps ∧ ∀ y, m.1 = [y] → PT w' (fun k => k ∉ ps.map Pnd.blk) y x := by
  obtain ⟨ts, os⟩ := m
  cases ts with
  | nil =>
    obtain ⟨A, cp, rfl⟩ := rs_none h
    refine ⟨.nilIface, .inl rfl, (only_t_none b A cp v1 w h.box).mono ?_⟩
    rintro e w' ⟨rfl, k, rfl⟩
    exact ⟨rfl, chgX_grown (gr_drewN w k none), _, _, rs_drew h, fun y hy => by simp at hy⟩
  | cons y ts =>
    obtain ⟨A, n, cp, rfl, hnt⟩ := rs_some h
    obtain ⟨vs', xv, rfl, hvl, hx, h1⟩ := rs_pop h
    obtain ⟨ty, pv, rfl⟩ := hx.iface
    have ho := h.cur.1
    rw [List.length_append, hvl] at ho
    simp only [List.length_cons] at hl
    refine ⟨.iface ty pv, .inr ⟨ty, pv, rfl⟩, (only_t_some n0 b A n cp v1 ty pv vs' _ rfl w h.box ho (by omega)).mono ?_⟩
    rintro e w' ⟨rfl, k, rfl⟩
    refine ⟨by simp [hnt], chgX_trans (rs_set h 0 _) (chgX_grown (gr_drewN _ k none)), _, _, rs_drew h1, fun z hz => ?_⟩
    cases hz
    have hz : PT (w.setCell ⟨b, 0, none⟩ (.slice A n cp)) (fun k => k ∉ ps.map Pnd.blk) y (.iface ty pv) := PT.keepT (fun b' xs T fr _ hT hh => ((Chg.row (wr := fun k => k = b) (gr_set w b 0 (.slice A n cp)) (fun k hk => by cases hk; rfl)).same b' (blk_lt hh) (rs_not (v0 := .slice A (n + 1) cp) (v1 := v1) (L := []) h.box b' xs T fr (by simp) hT hh)).trans hh) (fun _ hb _ => hb) _ _ hx
    exact hz.grown (gr_drewN _ k none)

set_option maxRecDepth 100000 in
set_option maxHeartbeats 1000000 in
/-- No loop ends where there is not one term, or no loop has begun. -/
theorem end_none (n0 b : Nat) (c : Int) (m : MS) (v0 v1 : Value) (vs : List Value) (ps : List Pnd) (w : World) (h : RS w n0 b m v0 v1 vs ps) (hl : m.1.length ≤ 1000) (hl2 : m.2.length ≤ 1000) (hm : m.1.length ≠ 1 ∨ m.2 = []) :
    Calls Tryd.prog 48 #[.pointer (some ⟨b, 0, none⟩), .int .u8 c] w (TakeP n0 b none w) := by
  obtain ⟨x, hx, hcall⟩ := rs_only h hl
  have HP := Lib.hid hcall
  have HE := Lib.hid (show ps.length = m.2.length from h.outs.len.symm)
  have HM := Lib.hid hm
  obtain ⟨r, hr⟩ : ∃ r, decide (m.1.length = 1) = r := ⟨_, rfl⟩
  rw [hr] at HP
  have HR := Lib.hid hr
  clear h hcall hm hr
  go_enter Tryd.func48, Tryd.ntmps48
  go_wp2_with fail
  refine HP.out.mono ?_
  rintro e w1 ⟨rfl, hc1, u, vs', h1, _⟩
  obtain ⟨p, q, r2, hcall2⟩ := rs_outN h1 (by have := HE.out; omega)
  have HQ := Lib.hid hcall2
  have HC1 := Lib.hid hc1
  clear h1 hcall2 hc1
  rcases hx with rfl | ⟨ty, pv, rfl⟩
  all_goals
    go_wp2_with fail
    refine HQ.out.mono ?_
    rintro e w2 ⟨⟨A, k, d, rfl, -⟩, hc2, hr2⟩
    have HC2 := Lib.hid (chgX_trans HC1.out hc2)
    have hp := Pr.new w2 117 (.pointer p) (.slice A k d)
    have hno : (!r || !r2) = true := by
      cases r with
      | false => rfl
      | true =>
        cases r2 with
        | false => rfl
        | true =>
          have e1 := of_decide_eq_true HR.out
          have e2 := hr2.1 rfl
          exfalso
          rcases HM.out with e | e
          · exact e e1
          · apply e2; apply List.length_eq_zero_iff.1; have := HE.out; rw [e] at this; simpa using this
    clear hc2 hr2 hp
    cases r
    · go_wp2_with fail
      go_ret
      exact takeP_no rfl rfl (chgX_trans HC2.out (chgX_grown (World.grownBy_alloc _ _ _)))
    · cases r2
      · go_wp2_with fail
        go_ret
        exact takeP_no rfl rfl (chgX_trans HC2.out (chgX_grown (World.grownBy_alloc _ _ _)))
      · cases hno
end

section
open Go.RowKit

/-- Behind the end of a loop, ahead of the push. -/
theorem rs_end {w w5 : World} {n0 b : Nat} {y : Tm} {o : Out} {os : List Out} {u v1 v2 x : Value} {vs : List Value} {p : Pnd} {ps : List Pnd} (h : RS w n0 b ([], o :: os) u v1 vs (p :: ps)) (hx : PT w (fun k => k ∉ (p :: ps).map Pnd.blk) y x)
    (hch : Chg (fun k => k = b ∨ k = p.blk) w w5) (hp5 : w5.heap[p.blk]? = some (.cells #[.int .u8 o.c, .int .u8 o.v, p.x, x] 105 (0, 0))) (hc : CR w5 b p.lv v2) (ho : w5.ownsRow n0 117 2 v2 ps.length (flatP ps)) :
    RS w5 n0 b (o.low, os) p.lv v2 p.us ps ∧ PT w5 (fun k => k ∉ ps.map Pnd.blk) (.loop o.c o.v o.over y) (.iface 71 (.pointer (some ⟨p.blk, 0, none⟩))) := by
  have hcr : CR w b u v1 := h.box
  obtain ⟨hoo, hos⟩ := h.outs
  have hnd := List.nodup_cons.1 h.nodup
  have hnt : ∀ k xs T fr, k ∉ (p :: ps).map Pnd.blk → NT T → w.heap[k]? = some (.cells xs T fr) → ¬ (k = b ∨ k = p.blk) := fun k xs T fr hk hT hh e =>
    e.elim (rs_not hcr k xs T fr hk hT hh) (fun e => hk (by simp [e]))
  have hL : ∀ k, k ∉ (p :: ps).map Pnd.blk → k < w.heap.size → k ∉ ps.map Pnd.blk := fun k hk _ hm => hk (by rw [List.map_cons]; exact List.mem_cons_of_mem _ hm)
  have hrow : ∀ {n : Nat} {v : Value} {xs : List Value}, w.ownsRow n0 40 1 v n xs → ∀ g, v.ownBlock = some g → ¬ (g = b ∨ g = p.blk) := fun hr g hg e => by
    rcases e with e | e
    · exact own_not hr h.box (by decide) (e ▸ hg)
    · exact own_not hr hoo.heap (by decide) (e ▸ hg)
  have hkp : ∀ t v, PT w (fun k => k ∉ (p :: ps).map Pnd.blk) t v → PT w5 (fun k => k ∉ ps.map Pnd.blk) t v := fun t v ht =>
    PT.keepT (fun b' xs T fr hb hT hh => (hch.same b' (blk_lt hh) (hnt b' xs T fr hb hT hh)).trans hh) hL t v ht
  refine ⟨⟨h.base, hc, hoo.row.chg hch (hrow hoo.row.1) hnt hL, ho, OS.chg hch hnt hL hos (fun q hq => ?_), hnd.2, ?_⟩, p.blk, p.x, x, rfl, hnd.1, hp5, hkp _ _ hoo.over, hkp _ _ hx⟩
  · obtain ⟨oq, hoq⟩ := hos.mem q hq
    refine ⟨?_, hrow hoq.row.1⟩
    rintro (e | e)
    · have h1 := hoq.heap
      rw [e, h.box] at h1
      cases h1
    · exact hnd.1 (by rw [← e]; exact List.mem_map.2 ⟨q, hq, rfl⟩)
  · exact (List.pairwise_cons.1 h.apart).2

set_option maxRecDepth 100000 in
set_option maxHeartbeats 2000000 in
theorem end_some (n0 b : Nat) (c : Int) (y : Tm) (o : Out) (os : List Out) (v0 v1 : Value) (vs : List Value) (ps : List Pnd) (w : World) (h : RS w n0 b ([y], o :: os) v0 v1 vs ps) (hl2 : os.length ≤ 900) (hl3 : o.low.length ≤ 900) (hn : n0 ≤ w.heap.size) (hoc : o.c = 91 ∨ o.c = 123) :
    Calls Tryd.prog 48 #[.pointer (some ⟨b, 0, none⟩), .int .u8 c] w (TakeP n0 b (step (.fin c) ([y], o :: os)) w) := by
  cases ps with
  | nil => exact h.outs.elim
  | cons p ps =>
  obtain ⟨x, hx, hcall⟩ := rs_only h (by simp)
  have HP := Lib.hid hcall
  have hpl := h.outs.len
  simp only [List.length_cons] at hpl
  have hpl2 : ps.length ≤ 900 := by omega
  have hlb : lastb o.c = o.c + 2 := by unfold lastb; rcases hoc with e | e <;> rw [e] <;> decide
  have HLB := Lib.hid hlb
  clear h hcall hpl hlb
  go_enter Tryd.func48, Tryd.ntmps48
  go_wp2_with fail
  refine HP.out.mono ?_
  rintro e w1 ⟨rfl, hc1, u, vs', h1, hy⟩
  have hy1 := hy y rfl
  have h1' : RS w1 n0 b ([], o :: os) u v1 vs' (p :: ps) := h1
  obtain ⟨ty, pv, rfl⟩ := hy1.iface
  have hsz1 := hc1.size
  obtain ⟨A, k, d, hv⟩ := own_form h1'.row
  have ho1 := h1'.row
  have hb1 : CR w1 b u v1 := h1'.box
  subst hv
  obtain rfl := own_len ho1
  obtain ⟨hoo, _⟩ := h1'.outs
  obtain ⟨A2, k2, d2, hlv⟩ := own_form hoo.row.1
  have ho2 : w1.ownsRow n0 117 2 (.slice A (ps.length + 1) d) (ps.length + 1) (flatP ps ++ [.pointer (some ⟨p.blk, 0, none⟩), .slice A2 k2 d2]) := by rw [← hlv]; exact ho1
  have HQ := Lib.hid (pop_o_some n0 b A ps.length d u ⟨p.blk, 0, none⟩ A2 k2 d2 (flatP ps) w1 hb1 ho2 (by omega))
  have HS := Lib.hid (own_short ho2 (m := ps.length) (by omega) (flatP_length ps))
  have H1 := Lib.hid h1'
  have HY := Lib.hid hy1
  have HC1 := Lib.hid hc1
  have HOO := Lib.hid hoo
  have HLV := Lib.hid hlv
  have HB1 := Lib.hid hb1
  clear h1 h1' hy hy1 hc1 ho1 ho2 hb1 hoo hlv
  simp only [List.length_cons, List.length_nil]
  go_wp2_with fail
  refine HQ.out.mono ?_
  rintro e w2 ⟨rfl, hc2, hb2⟩
  have hblk : p.blk ≠ b := fun e => by
    have h1 := HOO.out.heap
    rw [e] at h1
    have h2 := HB1.out
    unfold CR at h2
    rw [h2] at h1
    cases h1
  have hp2 : w2.heap[p.blk]? = some (.cells #[.int .u8 o.c, .int .u8 o.v, p.x, .nilIface] 105 (0, 0)) := (hc2.same _ (blk_lt HOO.out.heap) hblk).trans HOO.out.heap
  obtain ⟨w3, hw3⟩ : ∃ z, w2.alloc (.cells #[.pointer (some ⟨p.blk, 0, none⟩), .slice A2 k2 d2] 117) = z := ⟨_, rfl⟩
  have g3 : w2.grownBy w3 none := by rw [← hw3]; exact World.grownBy_alloc _ _ _
  have hbox : Pr w3 w2.heap.size 117 (.pointer (some ⟨p.blk, 0, none⟩)) (.slice A2 k2 d2) := by rw [← hw3]; exact Pr.new w2 _ _ _
  have hp3 : w3.heap[p.blk]? = some (.cells #[.int .u8 o.c, .int .u8 o.v, p.x, .nilIface] 105 (0, 0)) := (g3.block _ (blk_lt hp2) (by simp)).trans hp2
  have hb3 : CR w3 b u (.slice A ps.length d) := hb2.grown g3 (by simp)
  have q0 := hbox.c0
  have q1 := hbox.c1
  have l0 : w3.cell? ⟨p.blk, 0, none⟩ = some (.int .u8 o.c) := cell_of_row w3 p.blk 0 _ _ (0, 0) hp3
  have HCH3 := Lib.hid (show Chg (fun k => k = b ∨ k = p.blk) w1 w3 from (hc2.mono (fun _ _ e => .inl e)).trans (Chg.grown (wr := fun k => k = b ∨ k = p.blk) g3) (fun _ _ e => e) (fun _ _ e => e))
  have HL := Lib.hid (fun w => lastb_any o.c w)
  have HX3 := Lib.hid hbox
  have HP3 := Lib.hid hp3
  have HB3 := Lib.hid hb3
  have hsz2 : w1.heap.size ≤ w2.heap.size := hc2.size
  have hpb : p.blk < w2.heap.size := blk_lt hp2
  have hbb : b < w2.heap.size := hb2.lt
  clear hc2 hb2 hp2 g3 hbox hp3 hb3
  have l3 : w3.cell? ⟨p.blk, 3, none⟩ = some .nilIface := cell_of_row w3 p.blk 3 _ _ (0, 0) HP3.out
  have lf : w3.frozen? ⟨p.blk, 3, none⟩ = false := by have := HP3.out; simp [World.frozen?, this]
  have c0 := HB3.out.c0
  have f0 := HB3.out.f 0
  have n1 : ¬ w2.heap.size = p.blk := by omega
  have n2 : ¬ w2.heap.size = b := by omega
  have n3 : ¬ b = p.blk := fun e => hblk e.symm
  go_wp2_with fail
  refine (HL.out w3).mono ?_
  rintro e w3 ⟨rfl, rfl⟩
  rw [HLB.out]
  have HC3 := Lib.hid (chgX_trans HC1.out (chgX_of HCH3.out (fun k _ e => by
    rcases e with e | e
    · exact rs_wx H1.out k (.inl e)
    · exact ⟨by rw [e]; exact HOO.out.base, _, _, _, by rw [e]; exact HOO.out.heap, .inr (.inr (.inr rfl))⟩)))
  by_cases hcc : o.c + 2 = c
  · have hne : ((o.c + 2) != c) = false := by simpa using hcc
    obtain ⟨w4, hw4⟩ : ∃ z, w3.setCell ⟨p.blk, 3, none⟩ (.iface ty pv) = z := ⟨_, rfl⟩
    obtain ⟨w5, hw5⟩ : ∃ z, w4.setCell ⟨b, 0, none⟩ (.slice A2 k2 d2) = z := ⟨_, rfl⟩
    have g4 : w3.grownBy w4 (some p.blk) := by rw [← hw4]; exact gr_set _ _ _ _
    have g5 : w4.grownBy w5 (some b) := by rw [← hw5]; exact gr_set _ _ _ _
    have hp4 : w4.heap[p.blk]? = some (.cells #[.int .u8 o.c, .int .u8 o.v, p.x, .iface ty pv] 105 (0, 0)) := by
      have := HP3.out
      rw [← hw4]; simp [World.setCell, Array.getElem?_modify, this]
    have hp5 := (g5.block _ (blk_lt hp4) (by simpa using hblk)).trans hp4
    have hb4 : CR w4 b u (.slice A ps.length d) := HB3.out.grown g4 (by simpa using n3)
    have hb5 : CR w5 b (.slice A2 k2 d2) (.slice A ps.length d) := by rw [← hw5]; exact hb4.set0 _
    have hx4 := HX3.out.grown g4 (by simpa using n1)
    have hx5 := hx4.grown g5 (by simpa using n2)
    have b0 := hb4.c0
    have bf := hb4.f 0
    have x41 := hx4.c1
    have x50 := hx5.c0
    have hch5 : Chg (fun k => k = b ∨ k = p.blk) w1 w5 := (HCH3.out.trans (Chg.row (wr := fun k => k = b ∨ k = p.blk) g4 (fun k hk => .inr (by simpa using hk.symm))) (fun _ _ e => e) (fun _ _ e => e)).trans (Chg.row (wr := fun k => k = b ∨ k = p.blk) g5 (fun k hk => .inl (by simpa using hk.symm))) (fun _ _ e => e) (fun _ _ e => e)
    have ho5 := hch5.own HS.out (fun g hg e => by
      rcases e with e | e
      · exact own_not HS.out HB1.out (by decide) (e ▸ hg)
      · exact own_not HS.out HOO.out.heap (by decide) (e ▸ hg))
    obtain ⟨hr5, hpt5⟩ := rs_end H1.out HY.out hch5 hp5 (by rw [HLV.out]; exact hb5) ho5
    have hsz5 : w1.heap.size ≤ w5.heap.size := hch5.size
    have HR := Lib.hid (rs_pushC (w := w5.drew) (rs_drew (k := 1) hr5) (hpt5.grown (gr_drewN w5 1 none)) (by omega) (by simp; omega))
    have HC5 := Lib.hid (chgX_trans HC1.out (chgX_of hch5 (fun k _ e => by
      rcases e with e | e
      · exact rs_wx H1.out k (.inl e)
      · exact ⟨by rw [e]; exact HOO.out.base, _, _, _, by rw [e]; exact HOO.out.heap, .inr (.inr (.inr rfl))⟩)))
    clear g4 g5 hp4 hp5 hb4 hb5 hx4 hx5 hch5 ho5 hr5 hpt5
    go_wp2_with fail
    go_region_law (go_simp
                   go_at_call 44
                   refine HR.out.mono ?_
                   rintro e w6 ⟨rfl, hc6, u6, vs6, hr6⟩
                   have HR6 := Lib.hid hr6
                   have HC6 := Lib.hid hc6
                   clear hc6 hr6)
    all_goals
      go_wp2_with fail
      go_ret
      exact takeP_yes (by simp only [step]; rw [if_pos hcc]) rfl (chgX_trans (chgX_trans HC5.out (chgX_grown (gr_drewN w5 1 none))) HC6.out) HR6.out
  · have hne : ((o.c + 2) != c) = true := by simpa using hcc
    go_wp2_with fail
    go_ret
    exact takeP_no (by simp only [step]; rw [if_neg hcc]) rfl HC3.out
end

section
open Go.RowKit

theorem takeP_ret {n0 b : Nat} {r : Option MS} {w w' : World} {e : Ending} (h : TakeP n0 b r w e w') : e = .returned (.bool r.isSome) := by
  obtain ⟨_, h⟩ := h
  cases r with
  | none => exact h
  | some m => exact h.1
theorem takeP_from {n0 b : Nat} {r : Option MS} {w w1 w' : World} {e : Ending} (hg : w.grownBy w1 none) (h : TakeP n0 b r w1 e w') : TakeP n0 b r w e w' := ⟨chgX_trans (chgX_grown hg) h.1, h.2⟩

theorem change_any (n0 b : Nat) (c : Int) (m : MS) (v0 v1 : Value) (vs : List Value) (ps : List Pnd) (w : World) (h : RS w n0 b m v0 v1 vs ps) (hl : m.1.length ≤ 900) (hn : n0 ≤ w.heap.size) :
    Calls Tryd.prog 45 #[.pointer (some ⟨b, 0, none⟩), .int .u8 c] w (TakeP n0 b (step (.pre c) m) w) := by
  obtain ⟨ts, os⟩ := m
  cases ts with
  | nil => exact change_none n0 b c os v0 v1 vs ps w h
  | cons x ts => exact change_some n0 b c x ts os v0 v1 vs ps w h (by simp at hl; omega) hn
theorem join_any (n0 b : Nat) (c : Int) (m : MS) (v0 v1 : Value) (vs : List Value) (ps : List Pnd) (w : World) (h : RS w n0 b m v0 v1 vs ps) (hl : m.1.length ≤ 900) (hn : n0 ≤ w.heap.size) :
    Calls Tryd.prog 46 #[.pointer (some ⟨b, 0, none⟩), .int .u8 c] w (TakeP n0 b (step (.two c) m) w) := by
  obtain ⟨ts, os⟩ := m
  cases ts with
  | nil => exact join_none n0 b c os v0 v1 vs ps w h
  | cons y ts =>
    cases ts with
    | nil => exact join_one n0 b c y os v0 v1 vs ps w h
    | cons x ts => exact join_some n0 b c y x ts os v0 v1 vs ps w h (by simp at hl; omega) hn
theorem begin_any (n0 b : Nat) (c v : Int) (m : MS) (v0 v1 : Value) (vs : List Value) (ps : List Pnd) (w : World) (h : RS w n0 b m v0 v1 vs ps) (hl : m.1.length ≤ 900) (hl2 : m.2.length ≤ 900) (hn : n0 ≤ w.heap.size) :
    Calls Tryd.prog 47 #[.pointer (some ⟨b, 0, none⟩), .int .u8 c, .int .u8 v] w (TakeP n0 b (step (.beg c v) m) w) := by
  obtain ⟨ts, os⟩ := m
  cases ts with
  | nil => exact begin_none n0 b c v os v0 v1 vs ps w h
  | cons x ts => exact begin_some n0 b c v x ts os v0 v1 vs ps w h (by simp at hl; omega) (by simp at hl2; omega) hn
theorem end_any (n0 b : Nat) (c : Int) (m : MS) (v0 v1 : Value) (vs : List Value) (ps : List Pnd) (w : World) (h : RS w n0 b m v0 v1 vs ps) (hl : m.1.length ≤ 900) (hl2 : m.2.length ≤ 900) (hl3 : ∀ o ∈ m.2, (o.c = 91 ∨ o.c = 123) ∧ o.low.length ≤ 900) (hn : n0 ≤ w.heap.size) :
    Calls Tryd.prog 48 #[.pointer (some ⟨b, 0, none⟩), .int .u8 c] w (TakeP n0 b (step (.fin c) m) w) := by
  obtain ⟨ts, os⟩ := m
  match ts, os, h, hl, hl2, hl3 with
  | [], os, h, hl, hl2, hl3 => exact end_none n0 b c _ v0 v1 vs ps w h (by simp) (by simp at hl2 ⊢; omega) (.inl (by simp))
  | y :: x :: ts, os, h, hl, hl2, hl3 => exact end_none n0 b c _ v0 v1 vs ps w h (by simp at hl ⊢; omega) (by simp at hl2 ⊢; omega) (.inl (by simp))
  | [y], [], h, hl, hl2, hl3 => exact end_none n0 b c _ v0 v1 vs ps w h (by simp) (by simp) (.inr rfl)
  | [y], o :: os, h, hl, hl2, hl3 =>
    have := hl3 o (by simp)
    exact end_some n0 b c y o os v0 v1 vs ps w h (by simp at hl2; omega) this.2 hn this.1

set_option maxRecDepth 100000 in
set_option maxHeartbeats 1000000 in
theorem take_pre (n0 b : Nat) (c v : Int) (r : Option MS) (w : World) (hb : ∀ w1, w.grownBy w1 none → Calls Tryd.prog 45 #[.pointer (some ⟨b, 0, none⟩), .int .u8 c] w1 (TakeP n0 b r w1)) :
    Calls Tryd.prog 30 #[.pointer (some ⟨b, 0, none⟩), insT 3 c v] w (TakeP n0 b r w) := by
  obtain ⟨w1, hw1⟩ : ∃ z, w.alloc (.cells #[.int .i64 3, .int .u8 c, .int .u8 v] 59) = z := ⟨_, rfl⟩
  have g1 : w.grownBy w1 none := by rw [← hw1]; exact World.grownBy_alloc _ _ _
  have hc3 : C3 w1 w.heap.size (.int .i64 3) (.int .u8 c) (.int .u8 v) 59 := by rw [← hw1]; exact c3_new w _ _ _ _
  have c0 := hc3.c0
  have c1 := hc3.c1
  have c2 := hc3.c2
  have HB := Lib.hid (hb w1 g1)
  have HG := Lib.hid g1
  clear hb g1 hc3
  unfold insT
  go_enter Tryd.func30, Tryd.ntmps30
  go_wp2_with fail
  refine HB.out.mono ?_
  intro e w2 h
  obtain rfl := takeP_ret h
  have H := Lib.hid h
  clear h
  go_wp2_with fail
  go_ret
  exact takeP_from HG.out H.out

set_option maxRecDepth 100000 in
set_option maxHeartbeats 1000000 in
theorem take_two (n0 b : Nat) (c v : Int) (r : Option MS) (w : World) (hb : ∀ w1, w.grownBy w1 none → Calls Tryd.prog 46 #[.pointer (some ⟨b, 0, none⟩), .int .u8 c] w1 (TakeP n0 b r w1)) :
    Calls Tryd.prog 30 #[.pointer (some ⟨b, 0, none⟩), insT 4 c v] w (TakeP n0 b r w) := by
  obtain ⟨w1, hw1⟩ : ∃ z, w.alloc (.cells #[.int .i64 4, .int .u8 c, .int .u8 v] 59) = z := ⟨_, rfl⟩
  have g1 : w.grownBy w1 none := by rw [← hw1]; exact World.grownBy_alloc _ _ _
  have hc3 : C3 w1 w.heap.size (.int .i64 4) (.int .u8 c) (.int .u8 v) 59 := by rw [← hw1]; exact c3_new w _ _ _ _
  have c0 := hc3.c0
  have c1 := hc3.c1
  have c2 := hc3.c2
  have HB := Lib.hid (hb w1 g1)
  have HG := Lib.hid g1
  clear hb g1 hc3
  unfold insT
  go_enter Tryd.func30, Tryd.ntmps30
  go_wp2_with fail
  refine HB.out.mono ?_
  intro e w2 h
  obtain rfl := takeP_ret h
  have H := Lib.hid h
  clear h
  go_wp2_with fail
  go_ret
  exact takeP_from HG.out H.out

set_option maxRecDepth 100000 in
set_option maxHeartbeats 1000000 in
theorem take_beg (n0 b : Nat) (c v : Int) (r : Option MS) (w : World) (hb : ∀ w1, w.grownBy w1 none → Calls Tryd.prog 47 #[.pointer (some ⟨b, 0, none⟩), .int .u8 c, .int .u8 v] w1 (TakeP n0 b r w1)) :
    Calls Tryd.prog 30 #[.pointer (some ⟨b, 0, none⟩), insT 5 c v] w (TakeP n0 b r w) := by
  obtain ⟨w1, hw1⟩ : ∃ z, w.alloc (.cells #[.int .i64 5, .int .u8 c, .int .u8 v] 59) = z := ⟨_, rfl⟩
  have g1 : w.grownBy w1 none := by rw [← hw1]; exact World.grownBy_alloc _ _ _
  have hc3 : C3 w1 w.heap.size (.int .i64 5) (.int .u8 c) (.int .u8 v) 59 := by rw [← hw1]; exact c3_new w _ _ _ _
  have c0 := hc3.c0
  have c1 := hc3.c1
  have c2 := hc3.c2
  have HB := Lib.hid (hb w1 g1)
  have HG := Lib.hid g1
  clear hb g1 hc3
  unfold insT
  go_enter Tryd.func30, Tryd.ntmps30
  go_wp2_with fail
  refine HB.out.mono ?_
  intro e w2 h
  obtain rfl := takeP_ret h
  have H := Lib.hid h
  clear h
  go_wp2_with fail
  go_ret
  exact takeP_from HG.out H.out

set_option maxRecDepth 100000 in
set_option maxHeartbeats 1000000 in
theorem take_fin (n0 b : Nat) (c v : Int) (r : Option MS) (w : World) (hb : ∀ w1, w.grownBy w1 none → Calls Tryd.prog 48 #[.pointer (some ⟨b, 0, none⟩), .int .u8 c] w1 (TakeP n0 b r w1)) :
    Calls Tryd.prog 30 #[.pointer (some ⟨b, 0, none⟩), insT 6 c v] w (TakeP n0 b r w) := by
  obtain ⟨w1, hw1⟩ : ∃ z, w.alloc (.cells #[.int .i64 6, .int .u8 c, .int .u8 v] 59) = z := ⟨_, rfl⟩
  have g1 : w.grownBy w1 none := by rw [← hw1]; exact World.grownBy_alloc _ _ _
  have hc3 : C3 w1 w.heap.size (.int .i64 6) (.int .u8 c) (.int .u8 v) 59 := by rw [← hw1]; exact c3_new w _ _ _ _
  have c0 := hc3.c0
  have c1 := hc3.c1
  have c2 := hc3.c2
  have HB := Lib.hid (hb w1 g1)
  have HG := Lib.hid g1
  clear hb g1 hc3
  unfold insT
  go_enter Tryd.func30, Tryd.ntmps30
  go_wp2_with fail
  refine HB.out.mono ?_
  intro e w2 h
  obtain rfl := takeP_ret h
  have H := Lib.hid h
  clear h
  go_wp2_with fail
  go_ret
  exact takeP_from HG.out H.out

set_option maxRecDepth 100000 in
set_option maxHeartbeats 1000000 in
theorem take_dig (n0 b : Nat) (c : Int) (m : MS) (v0 v1 : Value) (vs : List Value) (ps : List Pnd) (w : World) (h : RS w n0 b m v0 v1 vs ps) (hl : m.1.length ≤ 900) (hn : n0 ≤ w.heap.size) :
    Calls Tryd.prog 30 #[.pointer (some ⟨b, 0, none⟩), insT 1 c 0] w (TakeP n0 b (step (.dig c) m) w) := by
  obtain ⟨w1, hw1⟩ : ∃ z, w.alloc (.cells #[.int .i64 1, .int .u8 c, .int .u8 0] 59) = z := ⟨_, rfl⟩
  have g1 : w.grownBy w1 none := by rw [← hw1]; exact World.grownBy_alloc _ _ _
  have hc3 : C3 w1 w.heap.size (.int .i64 1) (.int .u8 c) (.int .u8 0) 59 := by rw [← hw1]; exact c3_new w _ _ _ _
  have c0 := hc3.c0
  have c1 := hc3.c1
  have c2 := hc3.c2
  obtain ⟨ts, os⟩ := m
  have h1 := rs_drew (k := 1) (h.grown g1)
  have hsz := g1.size
  have HR := Lib.hid (rs_pushC (w := w1.drew) h1 (show PT w1.drew (fun k => k ∉ ps.map Pnd.blk) (.dig c) (.iface 94 (.int .u8 c)) from rfl) (by simp at hl; omega) (by simp; omega))
  have HG := Lib.hid g1
  clear h h1 g1 hc3 hsz
  unfold insT
  go_enter Tryd.func30, Tryd.ntmps30
  go_wp2_with fail
  go_region_law (go_simp
                 go_at_call 44
                 refine HR.out.mono ?_
                 rintro e w6 ⟨rfl, hc6, u6, vs6, hr6⟩
                 have HR6 := Lib.hid hr6
                 have HC6 := Lib.hid hc6
                 clear hc6 hr6)
  all_goals
    go_wp2_with fail
    go_ret
    exact takeP_yes rfl rfl (chgX_trans (chgX_grown (HG.out.trans (gr_drewN w1 1 none))) HC6.out) HR6.out

set_option maxRecDepth 100000 in
set_option maxHeartbeats 1000000 in
theorem take_var (n0 b : Nat) (c : Int) (m : MS) (v0 v1 : Value) (vs : List Value) (ps : List Pnd) (w : World) (h : RS w n0 b m v0 v1 vs ps) (hl : m.1.length ≤ 900) (hn : n0 ≤ w.heap.size) :
    Calls Tryd.prog 30 #[.pointer (some ⟨b, 0, none⟩), insT 2 c 0] w (TakeP n0 b (step (.var c) m) w) := by
  obtain ⟨w1, hw1⟩ : ∃ z, w.alloc (.cells #[.int .i64 2, .int .u8 c, .int .u8 0] 59) = z := ⟨_, rfl⟩
  have g1 : w.grownBy w1 none := by rw [← hw1]; exact World.grownBy_alloc _ _ _
  have hc3 : C3 w1 w.heap.size (.int .i64 2) (.int .u8 c) (.int .u8 0) 59 := by rw [← hw1]; exact c3_new w _ _ _ _
  have c0 := hc3.c0
  have c1 := hc3.c1
  have c2 := hc3.c2
  obtain ⟨ts, os⟩ := m
  have h1 := rs_drew (k := 1) (h.grown g1)
  have hsz := g1.size
  have HR := Lib.hid (rs_pushC (w := w1.drew) h1 (show PT w1.drew (fun k => k ∉ ps.map Pnd.blk) (.var c) (.iface 57 (.int .u8 c)) from rfl) (by simp at hl; omega) (by simp; omega))
  have HG := Lib.hid g1
  clear h h1 g1 hc3 hsz
  unfold insT
  go_enter Tryd.func30, Tryd.ntmps30
  go_wp2_with fail
  go_region_law (go_simp
                 go_at_call 44
                 refine HR.out.mono ?_
                 rintro e w6 ⟨rfl, hc6, u6, vs6, hr6⟩
                 have HR6 := Lib.hid hr6
                 have HC6 := Lib.hid hc6
                 clear hc6 hr6)
  all_goals
    go_wp2_with fail
    go_ret
    exact takeP_yes rfl rfl (chgX_trans (chgX_grown (HG.out.trans (gr_drewN w1 1 none))) HC6.out) HR6.out

set_option maxRecDepth 100000 in
set_option maxHeartbeats 1000000 in
theorem take_bad (n0 b : Nat) (c v : Int) (w : World) :
    Calls Tryd.prog 30 #[.pointer (some ⟨b, 0, none⟩), insT 0 c v] w (TakeP n0 b none w) := by
  obtain ⟨w1, hw1⟩ : ∃ z, w.alloc (.cells #[.int .i64 0, .int .u8 c, .int .u8 v] 59) = z := ⟨_, rfl⟩
  have g1 : w.grownBy w1 none := by rw [← hw1]; exact World.grownBy_alloc _ _ _
  have hc3 : C3 w1 w.heap.size (.int .i64 0) (.int .u8 c) (.int .u8 v) 59 := by rw [← hw1]; exact c3_new w _ _ _ _
  have c0 := hc3.c0
  have c1 := hc3.c1
  have c2 := hc3.c2
  have HG := Lib.hid g1
  clear g1 hc3
  unfold insT
  go_enter Tryd.func30, Tryd.ntmps30
  go_wp2_with fail
  go_ret
  exact takeP_no rfl rfl (chgX_grown HG.out)

theorem told_low {n : Nat} {m : MS} (h : Told7 n m) : m.1.length ≤ n ∧ m.2.length ≤ n ∧ ∀ o ∈ m.2, (o.c = 91 ∨ o.c = 123) ∧ o.low.length ≤ n := by
  have hg := h.hg
  rw [hgt_eq] at hg
  have key : ∀ (os : List Out) (o : Out), o ∈ os → o.low.length ≤ (low os).length := by
    intro os
    induction os with
    | nil => intro o ho; cases ho
    | cons p os ih =>
      intro o ho
      simp only [low, List.length_append, List.length_reverse]
      rcases List.mem_cons.1 ho with rfl | ho
      · omega
      · have := ih o ho; omega
  exact ⟨by omega, h.lv, fun o ho => ⟨(h.ok.2 o ho).1, by have := key _ o ho; omega⟩⟩

/-- The reader takes a piece of code. -/
theorem take_any (n0 b n : Nat) (x : ByteArray) (m : MS) (v0 v1 : Value) (vs : List Value) (ps : List Pnd) (w : World) (h : RS w n0 b m v0 v1 vs ps) (ht : Told7 n m) (hn9 : n ≤ 900) (hn : n0 ≤ w.heap.size) :
    Calls Tryd.prog 30 #[.pointer (some ⟨b, 0, none⟩), riV x] w (TakeP n0 b (stepB x m) w) := by
  obtain ⟨t1, t2, t3⟩ := told_low ht
  have hr := riV_of x
  unfold stepB
  cases hi : insOf x with
  | none =>
    rw [hi] at hr
    obtain ⟨c, v, hr⟩ := hr
    rw [hr]
    exact take_bad n0 b c v w
  | some i =>
    rw [hi] at hr
    rw [show riV x = i.val from hr]
    cases i with
    | dig c => exact take_dig n0 b c m v0 v1 vs ps w h (by omega) hn
    | var c => exact take_var n0 b c m v0 v1 vs ps w h (by omega) hn
    | pre c => exact take_pre n0 b c 0 _ w (fun w1 g1 => change_any n0 b c m v0 v1 vs ps w1 (h.grown g1) (by omega) (Nat.le_trans hn g1.size))
    | two c => exact take_two n0 b c 0 _ w (fun w1 g1 => join_any n0 b c m v0 v1 vs ps w1 (h.grown g1) (by omega) (Nat.le_trans hn g1.size))
    | beg c v => exact take_beg n0 b c v _ w (fun w1 g1 => begin_any n0 b c v m v0 v1 vs ps w1 (h.grown g1) (by omega) (by omega) (Nat.le_trans hn g1.size))
    | fin c => exact take_fin n0 b c 0 _ w (fun w1 g1 => end_any n0 b c m v0 v1 vs ps w1 (h.grown g1) (by omega) (by omega) (fun o ho => ⟨(t3 o ho).1, by have := (t3 o ho).2; omega⟩) (Nat.le_trans hn g1.size))
end

section
open Go.RowKit

/-- How whole ends. -/
def WholeP (n0 : Nat) (r : Option Tm) (w : World) (e : Ending) (w' : World) : Prop := Chg (WX n0 w) w w' ∧ ∃ x : Value, (x = .nilIface ∨ ∃ ty pv, x = .iface ty pv) ∧ e = .returned (.tuple #[x, .bool r.isSome]) ∧ ∀ t, r = some t → PT w' (fun _ => True) t x

set_option maxRecDepth 100000 in
set_option maxHeartbeats 1000000 in
theorem whole_any (n0 b : Nat) (m : MS) (v0 v1 : Value) (vs : List Value) (ps : List Pnd) (w : World) (h : RS w n0 b m v0 v1 vs ps) (hl : m.1.length ≤ 900) (hl2 : m.2.length ≤ 900) :
    Calls Tryd.prog 31 #[.pointer (some ⟨b, 0, none⟩)] w (WholeP n0 (whole m) w) := by
  obtain ⟨ts, os⟩ := m
  have hpl := h.outs.len
  simp only at hpl hl hl2
  obtain ⟨p, q, r, hcall⟩ := rs_outN h (by omega)
  have HP := Lib.hid hcall
  cases os with
  | cons o os =>
    have hw : whole (ts, o :: os) = none := by unfold whole; split <;> simp_all
    have hps : ps ≠ [] := by intro e; subst e; simp at hpl
    have HPS := Lib.hid hps
    rw [hw]
    clear h hcall hpl hps
    go_enter Tryd.func31, Tryd.ntmps31
    go_wp2_with fail
    refine HP.out.mono ?_
    rintro e w1 ⟨⟨A, k, c, rfl, -⟩, hc1, hr⟩
    obtain rfl := hr.2 HPS.out
    have HC1 := Lib.hid hc1
    clear hc1 hr
    go_wp2_with fail
    go_ret2
    exact ⟨chgX_trans HC1.out (chgX_grown (World.grownBy_alloc _ _ _)), _, .inl rfl, rfl, fun t ht => by cases ht⟩
  | nil =>
    have hps : ps = [] := List.length_eq_zero_iff.1 (by simpa using hpl.symm)
    subst hps
    obtain ⟨A, k, c, hv⟩ := own_form h.row
    have ho1 := h.row
    have hb1 : CR w b v0 v1 := h.box
    subst hv
    obtain rfl := own_len ho1
    have HPN := Lib.hid (pop_o_none b A c v0 w hb1)
    have H := Lib.hid h
    clear h hcall hpl HP hb1 ho1
    go_enter Tryd.func31, Tryd.ntmps31
    go_wp2_with fail
    refine HPN.out.mono ?_
    rintro e w1 ⟨rfl, hg1⟩
    have g2 := hg1.trans (World.grownBy_alloc w1 (.cells #[.pointer none, .slice none 0 0] 117) none)
    obtain ⟨x, hx, hcall⟩ := rs_only (H.out.grown g2) (Nat.le_trans hl (by omega))
    have HQ := Lib.hid hcall
    have HG := Lib.hid g2
    clear g2 hg1 hcall
    go_wp2_with fail
    refine HQ.out.mono ?_
    rintro e w3 ⟨rfl, hc3, u, vs', _, hy⟩
    have HC := Lib.hid (chgX_trans (chgX_grown HG.out) hc3)
    have HY := Lib.hid hy
    have hd : decide (ts.length = 1) = (whole (ts, [])).isSome := by
      match ts with
      | [] => rfl
      | [y] => rfl
      | y :: z :: ts => simp [whole]
    have HW := Lib.hid (show ∀ t, whole (ts, []) = some t → ts = [t] by
      intro t ht
      unfold whole at ht
      split at ht
      · rename_i e; cases e; cases ht; rfl
      · cases ht)
    simp only at hy ⊢
    rw [hd]
    clear hc3 hy hd
    rcases hx with rfl | ⟨ty, pv, rfl⟩
    all_goals
      go_wp2_with fail
      go_ret2
      exact ⟨HC.out, _, (by first | exact .inl rfl | exact .inr ⟨_, _, rfl⟩), rfl, fun t ht => (HY.out t (HW.out t ht)).any⟩
end

end Go.Proofs.YtdfanconjiiceaaDoor
