/- What takePart of the program does: the first of several arrays is cut off on all levels. -/
import Derived.Test.YtdfanconjiiceaaPartF
import Derived.Test.YtdfanconjiiceaaTake
import Derived.Test.YtdfanconjiiceaaWrong
import Derived.Maps.AppendAt
import Derived.BigRegion
namespace Go.Proofs.Ytdfanconjiiceaa
open Go.RowKit

/-- The state within takePart: the receiver, the part's box, the result's; the row of the levels, and that of the part's. -/
structure TK (B base g gp gz : Nat) (LL : List (List Int)) (w : World) (x : Value) (gR n cR j : Nat) (P : Option Addr) (cP : Nat) (us ps : List Value) : Prop where
  pg : Pr w g 70 x (.slice (some ⟨gR, 0, none⟩) n cR)
  pp : Pr w gp 70 (.slice none 0 0) (.slice P j cP)
  pz : ∃ a b, Pr w gz 70 a b
  rR : w.ownsRow B 23 1 (.slice (some ⟨gR, 0, none⟩) n cR) n us
  rP : w.ownsRow base 23 1 (.slice P j cP) j ps
  tk : ∀ (i : Nat) (L : List Int), i < j → LL[i]? = some L → ∃ v, ps[i]? = some v ∧ SlB B w v (L.take (cntE 1 (LL.take i)))
  dr : ∀ (i : Nat) (L : List Int), i < j → LL[i]? = some L → ∃ v, us[i]? = some v ∧ SlB B w v (L.drop (cntE 1 (LL.take i)))
  st : ∀ (i : Nat) (L : List Int), j ≤ i → LL[i]? = some L → ∃ v, us[i]? = some v ∧ SlB B w v L
  b1 : B ≤ base
  b2 : gR < base
  b3 : B ≤ g
  b4 : base ≤ gp
  n1 : g ≠ gp
  n2 : gz ≠ gp

/-- One level more: the rest is stored, the front is behind the part's levels, and the part holds them. -/
theorem TK.step {B base g gp gz gR n cR j cP k : Nat} {LL : List (List Int)} {w w3 w5 : World} {x rest front : Value} {P : Option Addr} {us ps : List Value} {L : List Int} {v8 : Value} {o : Obj} (h : TK B base g gp gz LL w x gR n cR j P cP us ps)
    (hL : LL[j]? = some L) (hk : cntE 1 (LL.take j) = k) (hf : SlB B w front (L.take k)) (hr : SlB B w rest (L.drop k)) (hj : j < n) (hus : us.length = n)
    (hw3 : (w.setCell ⟨gR, j, none⟩ rest).grownBy w3 none)
    (ho : w5.ownsRow base 23 1 v8 (j + 1) (ps ++ [front])) (hg : (w3.alloc o).grownBy w5 (Value.slice P j cP).ownBlock) (hat : v8.ownBlock = (Value.slice P j cP).ownBlock ∨ v8.ownBlock = some (w3.heap.size + 1)) :
    ∃ g8 c8, v8 = .slice (some ⟨g8, 0, none⟩) (j + 1) c8 ∧ Pr w5 gp 70 (.slice none 0 0) (.slice P j cP) ∧
      TK B base g gp gz LL (w5.setCell ⟨gp, 1, none⟩ v8) x gR n cR (j + 1) (some ⟨g8, 0, none⟩) c8 (us.set j rest) (ps ++ [front]) ∧ LowK B w (w5.setCell ⟨gp, 1, none⟩ v8) ∧ KpX g gR base w (w5.setCell ⟨gp, 1, none⟩ v8) := by
  obtain ⟨g8, c8, rfl⟩ : ∃ g8 c8, v8 = .slice (some ⟨g8, 0, none⟩) (j + 1) c8 := by
    rcases ho.2 with ⟨_, hn⟩ | ⟨g, cap, cur, hv, _⟩
    · omega
    · exact ⟨g, cap, hv⟩
  have hlt := h.rR.lt gR rfl
  obtain ⟨hs1, hs2⟩ := h.rR.stored j rest
  -- the store
  have hg3 : w.grownBy w3 (some gR) := hs2.trans ⟨hw3.os, hw3.tape, hw3.output, hw3.size, fun k hk _ => hw3.block k hk (by simp)⟩
  have hPR : ∀ q, (Value.slice P j cP).ownBlock = some q → base ≤ q ∧ q < w.heap.size := h.rP.lt
  have pg3 := (box_row h.pg h.rR (by decide) hs2).grown hw3 (by simp)
  have pp3 := (box_row h.pp h.rR (by decide) hs2).grown hw3 (by simp)
  obtain ⟨za, zb, hz⟩ := h.pz
  have pz3 := (box_row hz h.rR (by decide) hs2).grown hw3 (by simp)
  have rR3 := own_keep hs1 (fun q hq => hw3.block q (hs1.lt q hq).2 (by simp))
  have rP3 := own_keep h.rP (fun q hq => hg3.block q (hPR q hq).2 (by have := (hPR q hq).1; have := h.b2; simp; omega))
  -- the append
  have hg5 : w3.grownBy w5 (Value.slice P j cP).ownBlock := (World.grownBy_alloc w3 o _).trans hg
  have pg5 := box_row pg3 rP3 (by decide) hg5
  have pp5 := box_row pp3 rP3 (by decide) hg5
  have pz5 := box_row pz3 rP3 (by decide) hg5
  have rR5 := own_keep rR3 (fun q hq => hg5.block q (rR3.lt q hq).2 (fun e => by
    have h1 := (hPR q e.symm).1
    have h2 := h.b2
    simp [Value.ownBlock] at hq
    omega))
  -- the part's field
  have hg6 := gr_set w5 gp 1 (.slice (some ⟨g8, 0, none⟩) (j + 1) c8)
  have hlow : LowK B w (w5.setCell ⟨gp, 1, none⟩ (.slice (some ⟨g8, 0, none⟩) (j + 1) c8)) := by
    refine ((LowK.of hg3 (fun k hk => by cases hk; exact hlt.1)).trans (LowK.of hg5 (fun q hq => ?_))).trans (LowK.of hg6 (fun q hq => ?_))
    · have := (hPR q hq).1
      have := h.b1
      omega
    · cases hq
      have := h.b1
      have := h.b4
      omega
  have hbw : base ≤ w.heap.size := by have := h.pp.lt; have := h.b4; omega
  have hkp : KpX g gR base w (w5.setCell ⟨gp, 1, none⟩ (.slice (some ⟨g8, 0, none⟩) (j + 1) c8)) :=
    ((KpX.of hg3 (fun k hk => by cases hk; exact .inr (.inl rfl)) hbw).trans (KpX.of hg5 (fun q hq => .inr (.inr (hPR q hq).1)) (Nat.le_trans hbw hg3.size))).trans (KpX.of hg6 (fun q hq => by cases hq; exact .inr (.inr h.b4)) (Nat.le_trans hbw (Nat.le_trans hg3.size hg5.size)))
  refine ⟨g8, c8, rfl, pp5, ⟨pg5.grown hg6 (by simpa using h.n1), pp5.set1 _, ⟨za, zb, pz5.grown hg6 (by simpa using h.n2)⟩, own_box rR5 pp5 (by decide) hg6, own_box ho pp5 (by decide) hg6, ?_, ?_, ?_, h.b1, h.b2, h.b3, h.b4, h.n1, h.n2⟩, hlow, hkp⟩
  · intro i M hi hM
    have hpl : ps.length = j := by have := h.rP.1; omega
    by_cases e : i = j
    · subst e
      rw [hL] at hM
      cases hM
      rw [hk]
      exact ⟨front, by rw [List.getElem?_append_right (by omega), hpl]; simp, hf.low hlow⟩
    · obtain ⟨v, hv, hs⟩ := h.tk i M (by omega) hM
      exact ⟨v, by rw [List.getElem?_append_left (by omega)]; exact hv, hs.low hlow⟩
  · intro i M hi hM
    by_cases e : i = j
    · subst e
      rw [hL] at hM
      cases hM
      rw [hk]
      exact ⟨rest, by rw [List.getElem?_set, if_pos rfl, if_pos (by omega)], hr.low hlow⟩
    · obtain ⟨v, hv, hs⟩ := h.dr i M (by omega) hM
      exact ⟨v, by rw [List.getElem?_set, if_neg (by omega)]; exact hv, hs.low hlow⟩
  · intro i M hi hM
    obtain ⟨v, hv, hs⟩ := h.st i M (by omega) hM
    exact ⟨v, by rw [List.getElem?_set, if_neg (by omega)]; exact hv, hs.low hlow⟩

/-- How takePart ends: the part, and the rest in the receiver. -/
def PartPost (B g gR cR : Nat) (LL : List (List Int)) (D : List Int) (w : World) (e : Ending) (w' : World) : Prop :=
  ∃ Bd Bd2 cd P cP us ps, e = .returned (.agg #[.slice Bd (cntE 1 LL) (cntE 1 LL), .slice P LL.length cP]) ∧ LowK B w w' ∧ KpX g gR w.heap.size w w' ∧
    Pr w' g 70 (.slice Bd2 (D.length - cntE 1 LL) cd) (.slice (some ⟨gR, 0, none⟩) LL.length cR) ∧ w'.ownsRow B 23 1 (.slice (some ⟨gR, 0, none⟩) LL.length cR) LL.length us ∧
    (∀ (i : Nat) (L : List Int), LL[i]? = some L → ∃ v, us[i]? = some v ∧ SlB B w' v (L.drop (cntE 1 (LL.take i)))) ∧ SlB B w' (.slice Bd2 (D.length - cntE 1 LL) cd) (D.drop (cntE 1 LL)) ∧
    w'.ownsRow w.heap.size 23 1 (.slice P LL.length cP) LL.length ps ∧ (∀ (i : Nat) (L : List Int), LL[i]? = some L → ∃ v, ps[i]? = some v ∧ SlB B w' v (L.take (cntE 1 (LL.take i)))) ∧ SlB B w' (.slice Bd (cntE 1 LL) (cntE 1 LL)) (D.take (cntE 1 LL))

set_option maxRecDepth 100000 in
set_option maxHeartbeats 8000000 in
theorem takepart_some (B g gR cB cR : Nat) (Bd : Option Addr) (vs : List Value) (LL : List (List Int)) (D : List Int) (w : World)
    (hp : Pr w g 70 (.slice Bd D.length cB) (.slice (some ⟨gR, 0, none⟩) LL.length cR)) (hown : w.ownsRow B 23 1 (.slice (some ⟨gR, 0, none⟩) LL.length cR) LL.length vs)
    (hsl : ∀ (i : Nat) (L : List Int), LL[i]? = some L → ∃ v, vs[i]? = some v ∧ SlB B w v L) (hd : SlB B w (.slice Bd D.length cB) D) (hB : B ≤ g)
    (hfit : ∀ (j : Nat) (L : List Int), LL[j]? = some L → cntE 1 (LL.take j) ≤ L.length ∧ okN 400 L = true ∧ L.length ≤ 1048576) (hfd : cntE 1 LL ≤ D.length) (hn : LL.length ≤ 1048576) :
    Calls Try.prog 91 #[.pointer (some ⟨g, 0, none⟩)] w (PartPost B g gR cR LL D w) := by
  obtain ⟨i0, hi0, hz0, hz1, hz2⟩ := info_parts infoL
  have hgl := hp.lt
  have hrl := (hown.lt gR rfl)
  obtain ⟨n, hnn⟩ : ∃ n, LL.length = n := ⟨_, rfl⟩
  obtain ⟨m, hmm⟩ : ∃ m, D.length = m := ⟨_, rfl⟩
  have hT0 : TK B w.heap.size g (w.heap.size + 1) w.heap.size LL ((w.alloc (.cells #[.slice none 0 0, .slice none 0 0] 70)).alloc (.cells #[.slice none 0 0, .slice none 0 0] 70)) (.slice Bd m cB) gR n cR 0 none 0 vs [] := by
    have hg := (World.grownBy_alloc w (.cells #[.slice none 0 0, .slice none 0 0] 70) none).trans (World.grownBy_alloc _ (.cells #[.slice none 0 0, .slice none 0 0] 70) none)
    have hpn := Pr.new (w.alloc (.cells #[.slice none 0 0, .slice none 0 0] 70)) 70 (.slice none 0 0) (.slice none 0 0)
    rw [World.size_alloc] at hpn
    rw [hnn, hmm] at hp
    rw [hnn] at hown
    exact ⟨hp.grown hg (by simp), hpn, ⟨_, _, (Pr.new w 70 _ _).alloc _⟩, (hown.alloc _).alloc _, World.ownsRow_nil _ _ _ _, fun i L hi => by omega, fun i L hi => by omega, fun i L _ hL => by
      obtain ⟨v, hv, hs⟩ := hsl i L hL
      exact ⟨v, hv, hs.low (LowK.of hg (by simp))⟩, by omega, by omega, hB, by omega, by omega, by omega⟩
  have HT0 := Lib.hid hT0
  have HLO0 := Lib.hid (LowK.of (B := B) ((World.grownBy_alloc w (.cells #[.slice none 0 0, .slice none 0 0] 70) none).trans (World.grownBy_alloc _ (.cells #[.slice none 0 0, .slice none 0 0] 70) none)) (by simp))
  have HKP0 := Lib.hid (KpX.of (g := g) (gR := gR) (base := w.heap.size) ((World.grownBy_alloc w (.cells #[.slice none 0 0, .slice none 0 0] 70) none).trans (World.grownBy_alloc _ (.cells #[.slice none 0 0, .slice none 0 0] 70) none)) (by simp) (Nat.le_refl _))
  have HFIT := Lib.hid hfit
  have HFD := Lib.hid hfd
  have HD := Lib.hid hd
  have HN := Lib.hid hnn
  have HM := Lib.hid hmm
  have p1 := hT0.pg.c1
  rw [hnn] at hn
  clear hT0 hp hown hsl hd hfit hfd hnn hmm
  go_enter Try.func91, Try.ntmps91
  go_wp2_with fail
  generalize (w.alloc (.cells #[.slice none 0 0, .slice none 0 0] 70)).alloc (.cells #[.slice none 0 0, .slice none 0 0] 70) = u0 at HT0 HLO0 HKP0 p1 ⊢
  clear p1
  go_loopw [4, 13] (fun kk i wr => ∃ (j k : Nat) (P : Option Addr) (cP : Nat) (us ps : List Value), j ≤ n ∧ i = .int .i64 j ∧ kk = .int .i64 k ∧ Hid (k = cntE 1 (LL.take j)) ∧ Hid (TK B w.heap.size g (w.heap.size + 1) w.heap.size LL wr (.slice Bd m cB) gR n cR j P cP us ps) ∧ Hid (LowK B w wr) ∧ Hid (KpX g gR w.heap.size w wr)) (fun _ i _ => n - (intOf i).toNat)
  case atStart => exact ⟨0, 1, none, 0, _, _, Nat.zero_le _, rfl, rfl, Lib.hid rfl, HT0, HLO0, HKP0⟩
  case round =>
    clear HT0 HLO0 HKP0
    obtain ⟨j, k, P, cP, us, ps, hj, rfl, rfl, hkk, HT, HLO, HKP⟩ := hrel
    obtain ⟨wo, rfl⟩ : ∃ wo : World, wo = wr := ⟨_, rfl⟩
    by_cases hlt : j < n
    · obtain ⟨L, hL⟩ : ∃ L, LL[j]? = some L := ⟨_, List.getElem?_eq_getElem (by have := HN.out; omega)⟩
      obtain ⟨v, hv, hs⟩ := HT.out.st j L (Nat.le_refl _) hL
      obtain ⟨Aj, cj, rfl, hlc, hnil, haddr⟩ := id hs
      have HFT := Lib.hid (HFIT.out j L hL)
      have hkl : k ≤ L.length := by have := HFT.out.1; have := hkk.out; omega
      have hl6 : L.length ≤ 1048576 := HFT.out.2.2
      have HL := Lib.hid hL
      obtain ⟨ql, hql⟩ : ∃ q, L.length = q := ⟨_, rfl⟩
      have hcellR : wo.cell? ⟨gR, j, none⟩ = some (.slice Aj L.length cj) := (HT.out.rR.cellAt j (by omega)).trans hv
      have hfr := HT.out.rR.frozenAt j
      have p1 := HT.out.pg.c1
      rw [hql] at hcellR hs
      clear hL hv
      cases Aj with
      | none =>
        have hc0 := hnil rfl
        have hq0 : ql = 0 := by omega
        have hk0 : k = 0 := by omega
        clear hnil haddr
        subst hc0 hq0 hk0
        have hfront : SlB B wo (.slice none 0 0) (L.take 0) := hs.front (Nat.zero_le _)
        have hrest : SlB B wo (.slice none 0 0) (L.drop 0) := SlB.none (List.eq_nil_of_length_eq_zero (by rw [List.length_drop]; omega)) (by simp)
        have HF := Lib.hid hfront
        have HRS := Lib.hid hrest
        clear hfront hrest hs
        go_wp2_with fail
        go_region
        have hw3 : (wo.setCell ⟨gR, j, none⟩ (.slice none 0 0)).grownBy (wo.setCell ⟨gR, j, none⟩ (.slice none 0 0)).drew none := gr_drewN _ 1 none
        have HW3 := Lib.hid hw3
        have HS2 := Lib.hid (HT.out.rR.stored j (.slice none 0 0)).2
        have pp3 := (box_row HT.out.pp HT.out.rR (by decide) HS2.out).grown hw3 (by simp)
        have hgg3 : wo.grownBy (wo.setCell ⟨gR, j, none⟩ (.slice none 0 0)).drew (some gR) := HS2.out.trans ⟨hw3.os, hw3.tape, hw3.output, hw3.size, fun k hk _ => hw3.block k hk (by simp)⟩
        have rP3 := own_keep HT.out.rP (fun q hq => hgg3.block q (HT.out.rP.lt q hq).2 (by have := (HT.out.rP.lt q hq).1; have := HT.out.b2; simp; omega))
        generalize (wo.setCell ⟨gR, j, none⟩ (.slice none 0 0)).drew = w3 at HW3 pp3 rP3 hgg3 ⊢
        have q1 := pp3.c1
        have hown2 := rP3.alloc (.cells #[.slice none 0 0] 23)
        have HNL := Lib.hid (cell_one_new w3 (.slice none 0 0) 23)
        have hszB : w.heap.size ≤ w3.heap.size := Nat.le_trans HLO.out.1 hgg3.size
        clear pp3 rP3 hgg3 hw3 hcellR hfr
        go_wp2_with (at_builtin; refine wpList_append_own_at _ rfl _ _ 22 rfl w.heap.size 23 i0 (.slice none 0 0) 1 24 Try.underlying22 hi0 hz0 hz1 hz2 rfl (by decide) _ _ _ rfl hown2 ⟨w3.heap.size, 0, none⟩ 1 1 [.slice none 0 0] rfl rfl HNL.out ?c2 ?c3 ?c4 ?c5 ?_)
        case c2 => simp [Value.oneCell']
        case c3 => simp only [maxLen]; omega
        case c4 => omega
        case c5 => (try simp only [World.size_alloc]); omega
        intro v8 w5 hown8 hg8 _ hat8
        obtain ⟨g8, c8, rfl, hpp5, hTK, hlow, hkp⟩ := HT.out.step HL.out hkk.out.symm HF.out HRS.out hlt (by have := HT.out.rR.1; omega) HW3.out hown8 hg8 (by simpa using hat8)
        have q5 := hpp5.c1
        have f5 := hpp5.f 1
        have hsum := sumof_any none 0 (L.take 0) _ (HF.out.low hlow).ints.2.2.1 (okN_take HFT.out.2.1 0) (by rw [List.length_take]; have := HFT.out.2.2; omega)
        rw [show (L.take 0).length = 0 by rw [List.length_take]; omega] at hsum
        have hsb := sumI_bound (okN_take HFT.out.2.1 0)
        obtain ⟨k2, hk2⟩ : ∃ k2 : Nat, sumI (L.take 0) = (k2 : Int) := ⟨(sumI (L.take 0)).toNat, by omega⟩
        rw [hk2] at hsum
        have HSUM := Lib.hid hsum
        have HTK := Lib.hid hTK
        have HLO := Lib.hid (HLO.out.trans hlow)
        have HKP := Lib.hid (HKP.out.trans hkp)
        have HK2 := Lib.hid (show k2 = cntE 1 (LL.take (j + 1)) by rw [cntE_step LL 1 j L HL.out, ← hkk.out, hk2, Int.toNat_natCast])
        clear hown8 hg8 hat8 hTK hlow hkp hpp5 hsum hsb hk2 hown2 HNL
        go_wp2_with fail
        refine HSUM.out.mono ?_
        rintro e w9 ⟨rfl, rfl⟩
        go_wp2_with fail
        go_roundw
        case rel => exact ⟨j + 1, k2, _, c8, _, _, by omega, by go_num, rfl, HK2, HTK, HLO, HKP⟩
        case measure => simp [intOf]; omega
      | some a =>
        obtain ⟨b, off, rfl, hbB, hbs, _⟩ := haddr a rfl
        clear hnil
        by_cases hck : cj = k
        · subst hck
          have hqk : ql = cj := by omega
          subst hqk
          have hfront : SlB B wo (.slice (some ⟨b, off, none⟩) ql ql) (L.take ql) := hs.front hkl
          have hrest : SlB B wo (.slice (some ⟨b, off, none⟩) 0 0) (L.drop ql) := SlB.none (List.eq_nil_of_length_eq_zero (by rw [List.length_drop]; omega)) (fun a ha => by cases ha; exact ⟨b, off, rfl, hbB, hbs⟩)
          have HF := Lib.hid hfront
          have HRS := Lib.hid hrest
          clear hfront hrest hs
          go_wp2_with fail
          go_region
          have hw3 : (wo.setCell ⟨gR, j, none⟩ (.slice (some ⟨b, off, none⟩) 0 0)).grownBy (wo.setCell ⟨gR, j, none⟩ (.slice (some ⟨b, off, none⟩) 0 0)).drew none := gr_drewN _ 1 none
          have HW3 := Lib.hid hw3
          have HS2 := Lib.hid (HT.out.rR.stored j (.slice (some ⟨b, off, none⟩) 0 0)).2
          have pp3 := (box_row HT.out.pp HT.out.rR (by decide) HS2.out).grown hw3 (by simp)
          have hgg3 : wo.grownBy (wo.setCell ⟨gR, j, none⟩ (.slice (some ⟨b, off, none⟩) 0 0)).drew (some gR) := HS2.out.trans ⟨hw3.os, hw3.tape, hw3.output, hw3.size, fun k hk _ => hw3.block k hk (by simp)⟩
          have rP3 := own_keep HT.out.rP (fun q hq => hgg3.block q (HT.out.rP.lt q hq).2 (by have := (HT.out.rP.lt q hq).1; have := HT.out.b2; simp; omega))
          generalize (wo.setCell ⟨gR, j, none⟩ (.slice (some ⟨b, off, none⟩) 0 0)).drew = w3 at HW3 pp3 rP3 hgg3 ⊢
          have q1 := pp3.c1
          have hown2 := rP3.alloc (.cells #[.slice (some ⟨b, off, none⟩) ql ql] 23)
          have HNL := Lib.hid (cell_one_new w3 (.slice (some ⟨b, off, none⟩) ql ql) 23)
          have hszB : w.heap.size ≤ w3.heap.size := Nat.le_trans HLO.out.1 hgg3.size
          clear pp3 rP3 hgg3 hw3 hcellR hfr
          go_wp2_with (at_builtin; refine wpList_append_own_at _ rfl _ _ 22 rfl w.heap.size 23 i0 (.slice none 0 0) 1 24 Try.underlying22 hi0 hz0 hz1 hz2 rfl (by decide) _ _ _ rfl hown2 ⟨w3.heap.size, 0, none⟩ 1 1 [.slice (some ⟨b, off, none⟩) ql ql] rfl rfl HNL.out ?c2 ?c3 ?c4 ?c5 ?_)
          case c2 => simp [Value.oneCell']
          case c3 => simp only [maxLen]; omega
          case c4 => omega
          case c5 => (try simp only [World.size_alloc]); omega
          intro v8 w5 hown8 hg8 _ hat8
          obtain ⟨g8, c8, rfl, hpp5, hTK, hlow, hkp⟩ := HT.out.step HL.out hkk.out.symm HF.out HRS.out hlt (by have := HT.out.rR.1; omega) HW3.out hown8 hg8 (by simpa using hat8)
          have q5 := hpp5.c1
          have f5 := hpp5.f 1
          have hsum := sumof_any (some ⟨b, off, none⟩) ql (L.take ql) _ (HF.out.low hlow).ints.2.2.1 (okN_take HFT.out.2.1 ql) (by rw [List.length_take]; have := HFT.out.2.2; omega)
          rw [show (L.take ql).length = ql by rw [List.length_take]; omega] at hsum
          have hsb := sumI_bound (okN_take HFT.out.2.1 ql)
          obtain ⟨k2, hk2⟩ : ∃ k2 : Nat, sumI (L.take ql) = (k2 : Int) := ⟨(sumI (L.take ql)).toNat, by omega⟩
          rw [hk2] at hsum
          have HSUM := Lib.hid hsum
          have HTK := Lib.hid hTK
          have HLO := Lib.hid (HLO.out.trans hlow)
          have HKP := Lib.hid (HKP.out.trans hkp)
          have HK2 := Lib.hid (show k2 = cntE 1 (LL.take (j + 1)) by rw [cntE_step LL 1 j L HL.out, ← hkk.out, hk2, Int.toNat_natCast])
          clear hown8 hg8 hat8 hTK hlow hkp hpp5 hsum hsb hk2 hown2 HNL
          go_wp2_with fail
          refine HSUM.out.mono ?_
          rintro e w9 ⟨rfl, rfl⟩
          go_wp2_with fail
          go_roundw
          case rel => exact ⟨j + 1, k2, _, c8, _, _, by omega, by go_num, rfl, HK2, HTK, HLO, HKP⟩
          case measure => simp [intOf]; omega
        · have hck2 : k < cj := by omega
          have hfront : SlB B wo (.slice (some ⟨b, off, none⟩) k k) (L.take k) := hs.front hkl
          have hrest : SlB B wo (.slice (some ⟨b, off + k, none⟩) (ql - k) (cj - k)) (L.drop k) := hs.rest hkl
          have HF := Lib.hid hfront
          have HRS := Lib.hid hrest
          clear hfront hrest hs
          go_wp2_with fail
          go_region
          have hw3 : (wo.setCell ⟨gR, j, none⟩ (.slice (some ⟨b, off + k, none⟩) (ql - k) (cj - k))).grownBy (wo.setCell ⟨gR, j, none⟩ (.slice (some ⟨b, off + k, none⟩) (ql - k) (cj - k))).drew none := gr_drewN _ 1 none
          have HW3 := Lib.hid hw3
          have HS2 := Lib.hid (HT.out.rR.stored j (.slice (some ⟨b, off + k, none⟩) (ql - k) (cj - k))).2
          have pp3 := (box_row HT.out.pp HT.out.rR (by decide) HS2.out).grown hw3 (by simp)
          have hgg3 : wo.grownBy (wo.setCell ⟨gR, j, none⟩ (.slice (some ⟨b, off + k, none⟩) (ql - k) (cj - k))).drew (some gR) := HS2.out.trans ⟨hw3.os, hw3.tape, hw3.output, hw3.size, fun k hk _ => hw3.block k hk (by simp)⟩
          have rP3 := own_keep HT.out.rP (fun q hq => hgg3.block q (HT.out.rP.lt q hq).2 (by have := (HT.out.rP.lt q hq).1; have := HT.out.b2; simp; omega))
          generalize (wo.setCell ⟨gR, j, none⟩ (.slice (some ⟨b, off + k, none⟩) (ql - k) (cj - k))).drew = w3 at HW3 pp3 rP3 hgg3 ⊢
          have q1 := pp3.c1
          have hown2 := rP3.alloc (.cells #[.slice (some ⟨b, off, none⟩) k k] 23)
          have HNL := Lib.hid (cell_one_new w3 (.slice (some ⟨b, off, none⟩) k k) 23)
          have hszB : w.heap.size ≤ w3.heap.size := Nat.le_trans HLO.out.1 hgg3.size
          clear pp3 rP3 hgg3 hw3 hcellR hfr
          go_wp2_with (at_builtin; refine wpList_append_own_at _ rfl _ _ 22 rfl w.heap.size 23 i0 (.slice none 0 0) 1 24 Try.underlying22 hi0 hz0 hz1 hz2 rfl (by decide) _ _ _ rfl hown2 ⟨w3.heap.size, 0, none⟩ 1 1 [.slice (some ⟨b, off, none⟩) k k] rfl rfl HNL.out ?c2 ?c3 ?c4 ?c5 ?_)
          case c2 => simp [Value.oneCell']
          case c3 => simp only [maxLen]; omega
          case c4 => omega
          case c5 => (try simp only [World.size_alloc]); omega
          intro v8 w5 hown8 hg8 _ hat8
          obtain ⟨g8, c8, rfl, hpp5, hTK, hlow, hkp⟩ := HT.out.step HL.out hkk.out.symm HF.out HRS.out hlt (by have := HT.out.rR.1; omega) HW3.out hown8 hg8 (by simpa using hat8)
          have q5 := hpp5.c1
          have f5 := hpp5.f 1
          have hsum := sumof_any (some ⟨b, off, none⟩) k (L.take k) _ (HF.out.low hlow).ints.2.2.1 (okN_take HFT.out.2.1 k) (by rw [List.length_take]; have := HFT.out.2.2; omega)
          rw [show (L.take k).length = k by rw [List.length_take]; omega] at hsum
          have hsb := sumI_bound (okN_take HFT.out.2.1 k)
          obtain ⟨k2, hk2⟩ : ∃ k2 : Nat, sumI (L.take k) = (k2 : Int) := ⟨(sumI (L.take k)).toNat, by omega⟩
          rw [hk2] at hsum
          have HSUM := Lib.hid hsum
          have HTK := Lib.hid hTK
          have HLO := Lib.hid (HLO.out.trans hlow)
          have HKP := Lib.hid (HKP.out.trans hkp)
          have HK2 := Lib.hid (show k2 = cntE 1 (LL.take (j + 1)) by rw [cntE_step LL 1 j L HL.out, ← hkk.out, hk2, Int.toNat_natCast])
          clear hown8 hg8 hat8 hTK hlow hkp hpp5 hsum hsb hk2 hown2 HNL
          go_wp2_with fail
          refine HSUM.out.mono ?_
          rintro e w9 ⟨rfl, rfl⟩
          go_wp2_with fail
          go_roundw
          case rel => exact ⟨j + 1, k2, _, c8, _, _, by omega, by go_num, rfl, HK2, HTK, HLO, HKP⟩
          case measure => simp [intOf]; omega
    · obtain rfl : j = n := by omega
      have hkE : cntE 1 LL = k := by rw [hkk.out, show LL.take j = LL from List.take_of_length_le (by have := HN.out; omega)]
      have HKE := Lib.hid hkE
      have hdl := HD.out.low HLO.out
      rw [HM.out] at hdl
      obtain ⟨_, hmc, hI, hnil⟩ := hdl.ints
      have HDL := Lib.hid hdl
      have hkm : k ≤ m := by have := HFD.out; have := HM.out; omega
      have HTA := Lib.hid (take_any g k m cB Bd D (.slice (some ⟨gR, 0, none⟩) j cR) wo HT.out.pg hI HM.out hnil hkm (by have := HM.out; omega) (fun a ha => by
        obtain ⟨A', c', hv, _, _, h3⟩ := HDL.out
        cases hv
        obtain ⟨b, off, rfl, _⟩ := h3 a ha
        rfl))
      clear hdl hmc hI hnil hkE
      go_wp2_with fail
      refine HTA.out.mono ?_
      rintro e w9 ⟨rfl, hg9, A', c', hp9, hcase⟩
      have pp9 := HT.out.pp.grown hg9 (by have := HT.out.n1; simp; omega)
      obtain ⟨za, zb, hz⟩ := HT.out.pz
      have pz9 := hz.grown hg9 (by simp; omega)
      have q0 := pp9.c0
      have f0 := pp9.f 0
      have hgs := gr_set w9 (w.heap.size + 1) 0 (.slice Bd k k)
      have pz10 := pz9.grown hgs (by simp)
      have pp10 := pp9.set0 (.slice Bd k k)
      have HH := Lib.hid (And.intro hg9 (And.intro hp9 (And.intro pp9 (And.intro pz10 (And.intro pp10 (And.intro hgs hcase))))))
      have q2 := pp10.c0
      have q3 := pp10.c1
      have z0 := pz10.c0
      have z1 := pz10.c1
      have zf0 := pz10.f 0
      have zf1 := pz10.f 1
      clear hg9 hp9 pp9 pz9 hgs pz10 pp10 hcase hz HTA
      go_wp2_with fail
      obtain ⟨hg9, hp9, pp9, pz10, pp10, hgs, hcase⟩ := HH.out
      have T1 := (pz10.set0 (.slice Bd k k)).set1 (.slice P j cP)
      have r0 := T1.c0
      have r1 := T1.c1
      refine bodyPost_ret (v := .agg #[.slice Bd k k, .slice P j cP]) (by simp [results, Try.results91, go_sem, r0, r1]) rfl ?_
      have hgz := (gr_set (w9.setCell ⟨w.heap.size + 1, 0, none⟩ (.slice Bd k k)) w.heap.size 0 (.slice Bd k k)).trans (gr_set ((w9.setCell ⟨w.heap.size + 1, 0, none⟩ (.slice Bd k k)).setCell ⟨w.heap.size, 0, none⟩ (.slice Bd k k)) w.heap.size 1 (.slice P j cP))
      generalize ((w9.setCell ⟨w.heap.size + 1, 0, none⟩ (.slice Bd k k)).setCell ⟨w.heap.size, 0, none⟩ (.slice Bd k k)).setCell ⟨w.heap.size, 1, none⟩ (.slice P j cP) = W at hgz ⊢
      generalize w9.setCell ⟨w.heap.size + 1, 0, none⟩ (.slice Bd k k) = w10 at hgs pz10 pp10 hgz
      have hb1 := HT.out.b1
      have hlow : LowK B wo W := ((LowK.of hg9 (fun q hq => by cases hq; exact HT.out.b3)).trans (LowK.of hgs (fun q hq => by cases hq; omega))).trans (LowK.of hgz (fun q hq => by cases hq; exact hb1))
      have hb4 := HT.out.b4
      have hszo : w.heap.size ≤ wo.heap.size := HLO.out.1
      have hkp : KpX g gR w.heap.size wo W := ((KpX.of hg9 (fun q hq => by cases hq; exact .inl rfl) hszo).trans (KpX.of hgs (fun q hq => by cases hq; right; right; omega) (Nat.le_trans hszo hg9.size))).trans (KpX.of hgz (fun q hq => by cases hq; right; right; omega) (Nat.le_trans hszo (Nat.le_trans hg9.size hgs.size)))
      have rR := own_box (own_box (own_box HT.out.rR HT.out.pg (by decide) hg9) pp9 (by decide) hgs) pz10 (by decide) hgz
      have rP := own_box (own_box (own_box HT.out.rP HT.out.pg (by decide) hg9) pp9 (by decide) hgs) pz10 (by decide) hgz
      have pgW := (hp9.grown hgs (by have := HT.out.n1; simp; omega)).grown hgz (by simp; omega)
      have hDW := HDL.out.low hlow
      refine ⟨Bd, A', c', P, cP, us, ps, by rw [HKE.out, HN.out], HLO.out.trans hlow, HKP.out.trans hkp, by rw [HKE.out, HM.out, HN.out]; exact pgW, by rw [HN.out]; exact rR, fun i L hL => ?_, ?_, by rw [HN.out]; exact rP, fun i L hL => ?_, ?_⟩
      · obtain ⟨v, hv, hs⟩ := HT.out.dr i L (by have := HN.out; have := (List.getElem?_eq_some_iff.1 hL).1; omega) hL
        exact ⟨v, hv, hs.low hlow⟩
      · rw [HKE.out, HM.out]
        rcases hcase with ⟨b, off, rfl, rfl, rfl⟩ | ⟨rfl, rfl, h0⟩
        · exact hDW.rest (by have := HM.out; omega)
        · rw [h0]
          refine SlB.none (List.eq_nil_of_length_eq_zero (by rw [List.length_drop]; have := HM.out; omega)) (fun a ha => ?_)
          obtain ⟨A2, c2, hv, _, _, h3⟩ := hDW
          cases hv
          obtain ⟨b, off, h4, h5, h6, _⟩ := h3 a ha
          exact ⟨b, off, h4, h5, h6⟩
      · obtain ⟨v, hv, hs⟩ := HT.out.tk i L (by have := HN.out; have := (List.getElem?_eq_some_iff.1 hL).1; omega) hL
        exact ⟨v, hv, hs.low hlow⟩
      · rw [HKE.out]
        exact hDW.front (by have := HM.out; omega)

end Go.Proofs.Ytdfanconjiiceaa
