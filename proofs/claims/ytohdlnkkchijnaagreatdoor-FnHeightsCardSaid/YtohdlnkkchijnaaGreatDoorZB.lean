/- 16 texts in one: SFin CVal Hts HtsI OwnSt InsT TDep TTerm TDepA TDepB DepC SCod CodI CodT TSize DCod. -/
import Derived.Test.YtohdlnkkchijnaaGreatDoorSDo
import Derived.Test.YtohdlnkkchijnaaGreatDoorSCut
import Derived.Test.YtohdlnkkchijnaaGreatDoorSEnd
import Derived.Test.YtohdlnkkchijnaaGreatDoorZA
import Derived.Test.YtohdlnkkchijnaaGreatDoorPr
import Derived.Deep.AppendLies
import Derived.Test.YtohdlnkkchijnaaGreatDoorSTerm
import Derived.Test.YtohdlnkkchijnaaGreatDoorTmT
import Derived.Test.YtohdlnkkchijnaaGreatDoorSSizeF
import Derived.Test.YtohdlnkkchijnaaGreatDoorOwn
import Derived.Test.YtohdlnkkchijnaaGreatDoorTSizeF
import Derived.Laws.OwnMore
import Derived.Test.YtohdlnkkchijnaaGreatDoorOne
import Derived.Test.YtohdlnkkchijnaaGreatDoorTmD
import Derived.Test.YtohdlnkkchijnaaGreatDoorSgn
import Derived.Test.YtohdlnkkchijnaaGreatDoorTMap
import Derived.Test.YtohdlnkkchijnaaGreatDoorTmM
import Derived.Test.YtohdlnkkchijnaaGreatDoorTAs
import Derived.Deep.RegionLaw
import Derived.Test.YtohdlnkkchijnaaGreatDoorTReadL
import Derived.Recover
import Derived.Deep.WholeRow
import Derived.Great.Walk
import Derived.Test.YtohdlnkkchijnaaGreatDoorTSignF
import Derived.Test.YtohdlnkkchijnaaGreatDoorSLstM
import Derived.Test.YtohdlnkkchijnaaGreatDoorCodP
import Derived.Test.YtohdlnkkchijnaaGreatDoorCode
import Derived.Test.YtohdlnkkchijnaaGreatDoorKids
namespace Go.Proofs.YtohdlnkkchijnaaGreatDoor
/-! SFin -/
section
section
open Go.RowKit

theorem infoIn : (Tryz.prog.info? 3).map (fun i => (i.zero, i.size, i.bytes)) = some (some (.int .i64 0), 1, 8) := by kernel_rfl

theorem two_eq {x : ByteArray} (hs : x.size = 2) : x = strOfNums [ba x 0, ba x 1] := by
  apply ByteArray.ext
  apply Array.toList_inj.1
  rw [strOfNums_data]
  have h0 : 0 < x.size := by omega
  have h1 : 1 < x.size := by omega
  rw [ba_in h0, ba_in h1]
  have hl : x.data.toList.length = 2 := by simpa using hs
  match hx : x.data.toList, hl with
  | [p, q], _ =>
    have e0 : x.data.toList[0]? = some x[0] := by rw [List.getElem?_eq_getElem (by omega)]; simp; rfl
    have e1 : x.data.toList[1]? = some x[1] := by rw [List.getElem?_eq_getElem (by omega)]; simp; rfl
    rw [hx] at e0 e1
    simp at e0 e1
    rw [← e0, ← e1]
    simp

/-- Behind the beginning of a loop. -/
theorem bs_begin {w w' : World} {n0 b : Nat} {t : Tm} {ts : List Tm} {os : List Out} {v0 v1 v2 u1 u2 : Value} {xs : List (Int × Int × Value)} {c v : Int} (h : BS w n0 b (t :: ts, os) v0 v1 v2 xs) (hb : C3 w' b v0 u1 u2 129) (h1 : w'.ownsRow n0 9 1 u1 (os.length + 1) ((lpS os).map Value.string ++ [.string (strOfNums [c, v])]))
    (h2 : w'.ownsRow n0 3 1 u2 (os.length + 1) ((bsI os).map (Value.int .i64) ++ [.int .i64 (xs.length : Nat)])) (hc : Chg (fun k => k = b ∨ v1.ownBlock = some k ∨ v2.ownBlock = some k) w w') : BS w' n0 b ([], ⟨c, v, t, ts⟩ :: os) v0 u1 u2 xs := by
  have hcw : Chg (BW b v0 v1 v2) w w' := hc.mono (fun _ _ e => by
    rcases e with e | e | e
    · exact .inl e
    · exact .inr (.inr (.inl e))
    · exact .inr (.inr (.inr e)))
  have hlen := bs_len h
  simp only [List.length_cons] at hlen
  refine ⟨h.base, hb, own_keep h.st (fun g hg => hc.same g (h.st.lt g hg).2 (fun e => ?_)), ?_, ?_, ?_⟩
  · obtain ⟨cs, hcs⟩ := own_heap h.st hg
    rcases e with e | e | e
    · exact own_not h.st h.box (by decide) (e ▸ hg)
    · exact own_not h.lo hcs (by decide) e
    · exact own_not h.ba hcs (by decide) e
  · have e : flatS (([], ⟨c, v, t, ts⟩ :: os) : MS) = flatS ((t :: ts, os) : MS) := by simp [flatS, low]
    rw [e]
    exact All2.mono (fun t N ht => bs_sn h hcw (Fr3.refl w v0) t N ht) _ _ h.sn
  · simpa [lpS] using h1
  · have e : ((low (⟨c, v, t, ts⟩ :: os)).length : Int) = ((xs.length : Nat) : Int) := by rw [hlen]; simp [low]
    simp only [bsI, List.map_append, List.map_cons, List.map_nil, List.length_cons]
    rw [e]
    exact h2

set_option maxRecDepth 100000 in
set_option maxHeartbeats 1000000 in
theorem sdo_bad (n0 b : Nat) (x : ByteArray) (hk : kS x = 0) (v0 v1 v2 : Value) (w : World) :
    Calls Tryz.prog 69 #[.pointer (some ⟨b, 0, none⟩), .string x] w (DoP n0 b v0 v1 v2 none w) := by
  have HK := Lib.hid (fun w => skind_any x w)
  rw [hk] at HK
  clear hk
  go_enter Tryz.func69, Tryz.ntmps69
  go_wp2_with fail
  refine (HK.out w).mono ?_
  rintro e w' ⟨rfl, rfl⟩
  go_wp2_with fail
  go_ret
  exact doP_no rfl rfl (Chg.refl _ _)

set_option maxRecDepth 100000 in
set_option maxHeartbeats 1000000 in
theorem sdo_beg0 (n0 b : Nat) (x : ByteArray) (hk : kS x = 91) (os : List Out) (v0 v1 v2 : Value) (xs : List (Int × Int × Value)) (w : World) (h : BS w n0 b ([], os) v0 v1 v2 xs) (hl : xs.length ≤ 990) (hl2 : os.length ≤ 990) :
    Calls Tryz.prog 69 #[.pointer (some ⟨b, 0, none⟩), .string x] w (DoP n0 b v0 v1 v2 none w) := by
  have HK := Lib.hid (fun w => skind_any x w)
  rw [hk] at HK
  have hf := bs_floor h (by simp only; omega)
  have hlen := bs_len h
  simp only [List.length_nil] at hlen
  obtain ⟨A, n, cc, rfl⟩ := own_form h.st
  obtain rfl := own_len h.st
  have e0 := h.box.c0
  have e2 := h.box.c2
  obtain ⟨nx, hnx⟩ : ∃ n, xs.length = n := ⟨_, rfl⟩
  obtain ⟨f, hff⟩ : ∃ f, (low os).length = f := ⟨_, rfl⟩
  rw [hnx] at e0 hl
  rw [hff] at hf
  obtain rfl : nx = f := by omega
  obtain ⟨A2, m, c2, rfl, hm, hc⟩ := hf
  rw [hnx]
  clear h hk hlen hff hnx
  rcases hc with ⟨rfl, rfl⟩ | ⟨m', g, rfl, rfl, hgl, hcell⟩
  · go_enter Tryz.func69, Tryz.ntmps69
    go_wp2_with fail
    refine (HK.out w).mono ?_
    rintro e w' ⟨rfl, rfl⟩
    go_wp2_with fail
    go_ret
    exact doP_no rfl rfl (Chg.refl _ _)
  · have hmm : ((m' : Nat) : Int) < ((m' : Nat) : Int) + 1 := by omega
    go_enter Tryz.func69, Tryz.ntmps69
    go_wp2_with fail
    refine (HK.out w).mono ?_
    rintro e w' ⟨rfl, rfl⟩
    go_wp2_with fail
    go_quiet (fail)
    go_wp2_with fail
    go_ret
    exact doP_no rfl rfl (Chg.grown (gr_drewN _ _ none))

set_option maxRecDepth 100000 in
set_option maxHeartbeats 2000000 in
theorem sdo_beg1 (n0 b : Nat) (x : ByteArray) (hs : x.size = 2) (c v : Int) (h0 : ba x 0 = c) (h1 : ba x 1 = v) (hk : kS x = 91) (t : Tm) (ts : List Tm) (os : List Out) (v0 v1 v2 : Value) (xs : List (Int × Int × Value)) (w : World) (h : BS w n0 b (t :: ts, os) v0 v1 v2 xs) (hl : xs.length ≤ 990) (hl2 : os.length ≤ 990) (hn : n0 ≤ w.heap.size) :
    Calls Tryz.prog 69 #[.pointer (some ⟨b, 0, none⟩), .string x] w (DoP n0 b v0 v1 v2 (some ([], ⟨c, v, t, ts⟩ :: os)) w) := by
  obtain ⟨i0, hi0, hz0, hz1, hz2⟩ := info_parts infoSt
  obtain ⟨i1, hi1, hy0, hy1, hy2⟩ := info_parts infoIn
  have HX := Lib.hid (show x = strOfNums [c, v] by rw [← h0, ← h1]; exact two_eq hs)
  have HK := Lib.hid (fun w => skind_any x w)
  rw [hk] at HK
  have hf := bs_floor h (by simp only; omega)
  have hlen := bs_len h
  simp only [List.length_cons] at hlen
  have H := Lib.hid h
  obtain ⟨A, n, cc, hv0⟩ := own_form h.st
  obtain ⟨A1, n1, cc1, hv1⟩ := own_form h.lo
  obtain ⟨A2, m, c2, hv2, hm, hc⟩ := hf
  subst hv0
  subst hv1
  subst hv2
  have hn0' := own_len h.st
  have hn1' := own_len h.lo
  have hn2' := own_len h.ba
  simp only at hn1' hn2'
  subst hn0' hn1'
  have e0 := h.box.c0
  have e1 := h.box.c1
  have e2 := h.box.c2
  have e3 := h.box.f 1
  have HLO := Lib.hid h.lo
  have hba0 := h.ba
  simp only at hba0
  rw [← hn2'] at hba0
  have HBA := Lib.hid hba0
  clear hba0
  have hbox := h.box
  have hB1 : (Value.slice A1 os.length cc1).ownBlock ≠ some b := own_not h.lo h.box (by decide)
  have hB2 : (Value.slice A2 m c2).ownBlock ≠ some b := own_not h.ba h.box (by decide)
  have H12 := Lib.hid (show ∀ g, (Value.slice A2 m c2).ownBlock = some g → (Value.slice A1 os.length cc1).ownBlock ≠ some g from fun g hg => by
    obtain ⟨cs, hcs⟩ := own_heap h.ba hg
    exact own_not h.lo hcs (by decide))
  have HBN := Lib.hid (And.intro hB1 hB2)
  have hle : ¬ (((xs.length : Nat) : Int) ≤ (((low os).length : Nat) : Int)) := by omega
  obtain ⟨nx, hnx⟩ : ∃ n, xs.length = n := ⟨_, rfl⟩
  have HNX := Lib.hid hnx
  obtain ⟨f, hff⟩ : ∃ f, (low os).length = f := ⟨_, rfl⟩
  rw [hff] at hc hle
  rw [hnx] at e0 hle hl hbox ⊢
  have HBX := Lib.hid hbox
  have HM := Lib.hid hn2'
  clear h hk hlen hnx hff hB1 hB2 h0 h1 hn2' hbox
  rcases hc with ⟨rfl, rfl⟩ | ⟨m', g, rfl, rfl, hgl, hcell⟩
  · go_enter Tryz.func69, Tryz.ntmps69
    go_wp2_with fail
    refine (HK.out w).mono ?_
    rintro e w' ⟨rfl, rfl⟩
    skip
    have hgV : w'.grownBy (w'.alloc (.cells #[.string x] 9)) none := World.grownBy_alloc w' _ none
    have own1 := HLO.out.alloc (.cells #[.string x] 9)
    go_wp2_with (at_builtin; refine wpList_append_own_at _ rfl _ _ 27 rfl n0 9 i0 (.string .empty) 1 16 Tryz.underlying27 hi0 hz0 hz1 hz2 rfl (by decide) _ _ _ rfl own1 ⟨w'.heap.size, 0, none⟩ 1 1 [.string x] rfl rfl ?a1 ?a2 ?a3 ?a4 ?a5 ?_)
    case a1 => exact cell_one_new _ _ _
    case a2 => simp [Value.oneCell']
    case a3 => simp only [maxLen]; omega
    case a4 => omega
    case a5 => simp; omega
    intro u1 w8 hown8 hg8 _ hb8
    obtain ⟨A8, k8, c8, rfl⟩ := own_form hown8
    have hx8 : C3 w8 b (.slice A nx cc) (.slice A1 os.length cc1) (Value.slice A2 0 c2) 129 := (HBX.out.grown hgV (by simp)).grown hg8 (fun e => HBN.out.1 e.symm)
    have d0 := hx8.c0
    have d1 := hx8.c1
    have d2 := hx8.c2
    have d3 := hx8.f 1
    have HX8 := Lib.hid hx8
    have HO8 := Lib.hid hown8
    have HG8 := Lib.hid hg8
    have HB8 := Lib.hid hb8
    clear hx8 hown8 hg8 hb8 own1
    go_wp2_with fail
    obtain ⟨w9, hw9⟩ : ∃ z, w8.setCell ⟨b, 1, none⟩ (.slice A8 k8 c8) = z := ⟨_, rfl⟩
    obtain ⟨w10, hw10⟩ : ∃ z, w9.drew.alloc (.cells #[.int .i64 (nx : Nat)] 3) = z := ⟨_, rfl⟩
    have hx9 : C3 w9 b (.slice A nx cc) (.slice A8 k8 c8) (Value.slice A2 0 c2) 129 := by rw [← hw9]; exact HX8.out.set1 _
    have g10 : w9.grownBy w10 none := by rw [← hw10]; exact (gr_drewN w9 1 none).trans (World.grownBy_alloc w9.drew _ none)
    have hx10 := hx9.grown g10 (by simp)
    have q0 := hx9.c0
    have q2 := hx9.c2
    have p0 := hx10.c0
    have p2 := hx10.c2
    have hba8 := own_keep (own_keep HBA.out (fun k hk => hgV.block k (HBA.out.lt k hk).2 (by simp))) (fun k hk => HG8.out.block k (Nat.lt_of_lt_of_le (HBA.out.lt k hk).2 hgV.size) (fun e => H12.out k hk e.symm))
    have hba9 : w9.ownsRow n0 3 1 (Value.slice A2 0 c2) (0) ((bsI os).map (Value.int .i64)) := own_keep hba8 (fun k hk => by rw [← hw9]; exact Below.heap_setCell _ _ _ _ (fun e => HBN.out.2 (by rw [hk]; simpa using e)))
    have hba10 := own_keep hba9 (fun k hk => g10.block k (hba9.lt k hk).2 (by simp))
    have hsz10 : n0 ≤ w10.heap.size := by
      have a1 := hgV.size
      have a2 := HG8.out.size
      have a3 : w9.heap.size = w8.heap.size := by rw [← hw9]; simp
      have a4 := g10.size
      omega
    have HNL : Hid (∀ (j : Nat) (u : Value), ([.int .i64 (nx : Nat)] : List Value)[j]? = some u → w10.cell? ((⟨w9.heap.size, 0, none⟩ : Addr).add j) = some u) := Lib.hid (by rw [← hw10]; exact cell_one_new w9.drew _ _)
    have HX10 := Lib.hid hx10
    have HBA10 := Lib.hid hba10
    have HG10 := Lib.hid g10
    clear hx9 hx10 g10 hba8 hba9 hba10 d0 d1 d2 d3
    go_region_law (refine step_append_lies _ (by rfl) _ _ _ (by rfl) n0 3 i1 _ 1 8 Tryz.underlying32 hi1 hy0 hy1 hy2 rfl (by omega) _ (0) _ (by rfl) HBA10.out ⟨w9.heap.size, 0, none⟩ 1 1 [.int .i64 (nx : Nat)] (by rfl) (by rfl) HNL.out (by simp [Value.oneCell']) (by omega) (by simp only [maxLen]; omega) (by omega) hsz10 w10.heap.size rfl ?_
                   intro gg cap w11 hown11 hg11 hat11 hlt11
                   have hx11 : C3 w11 b (.slice A nx cc) (.slice A8 k8 c8) (Value.slice A2 0 c2) 129 := HX10.out.grown hg11 (fun e => HBN.out.2 e.symm)
                   have z2 := hx11.c2
                   have zf := hx11.f 2
                   have HX11 := Lib.hid hx11
                   have HO11 := Lib.hid hown11
                   have HG11 := Lib.hid hg11
                   have HA11 := Lib.hid hat11
                   clear hx11 hown11 hg11 hat11)
    all_goals
      clear z2 zf p0 p2 q0 q2
      obtain ⟨w12, hw12⟩ : ∃ z, w11.setCell ⟨b, 2, none⟩ (.slice (some ⟨gg, 0, none⟩) 1 cap) = z := ⟨_, rfl⟩
      have f12 : C3 w12 b (.slice A nx cc) (.slice A8 k8 c8) (.slice (some ⟨gg, 0, none⟩) 1 cap) 129 := by rw [← hw12]; exact HX11.out.set2 _
      have r1 : w12.ownsRow n0 9 1 (.slice A8 k8 c8) (os.length + 1) ((lpS os).map Value.string ++ [.string (strOfNums [c, v])]) := by
        have a1 := HO8.out
        rw [HX.out] at a1
        have a9 := own_keep a1 (fun k hk => by rw [← hw9]; exact Below.heap_setCell _ _ _ _ (fun e => own_not a1 HX8.out (by decide) (by rw [hk]; simpa using e)) : ∀ k, (Value.slice A8 k8 c8).ownBlock = some k → w9.heap[k]? = w8.heap[k]?)
        have a10 := own_keep a9 (fun k hk => HG10.out.block k (a9.lt k hk).2 (by simp))
        have a11 := own_keep a10 (fun k hk => HG11.out.block k (a10.lt k hk).2 (fun e => by
          obtain ⟨cs, hcs⟩ := own_heap a10 hk
          exact own_not HBA10.out hcs (by decide) e.symm))
        exact own_keep a11 (fun k hk => by rw [← hw12]; exact Below.heap_setCell _ _ _ _ (fun e => own_not a11 HX11.out (by decide) (by rw [hk]; simpa using e)))
      have r2 : w12.ownsRow n0 3 1 (.slice (some ⟨gg, 0, none⟩) 1 cap) (os.length + 1) ((bsI os).map (Value.int .i64) ++ [.int .i64 (xs.length : Nat)]) := by
        have a1 := HO11.out
        rw [HNX.out, ← HM.out]
        exact own_keep a1 (fun k hk => by rw [← hw12]; exact Below.heap_setCell _ _ _ _ (fun e => own_not a1 HX11.out (by decide) (by rw [hk]; simpa using e)))
      have hch : Chg (fun k => k = b ∨ (Value.slice A1 os.length cc1).ownBlock = some k ∨ (Value.slice A2 0 c2).ownBlock = some k) w' w12 := by
        have k0 : Chg (fun k => k = b ∨ (Value.slice A1 os.length cc1).ownBlock = some k ∨ (Value.slice A2 0 c2).ownBlock = some k) w' w8 := (Chg.grown hgV).trans (Chg.row (wr := fun k => k = b ∨ (Value.slice A1 os.length cc1).ownBlock = some k ∨ (Value.slice A2 0 c2).ownBlock = some k) HG8.out (fun k hk => .inr (.inl hk))) (fun _ _ e => e) (fun _ _ e => e)
        have k1 : Chg (fun k => k = b ∨ (Value.slice A1 os.length cc1).ownBlock = some k ∨ (Value.slice A2 0 c2).ownBlock = some k) w' w9 := by rw [← hw9]; exact chg_set k0 (.inl rfl)
        have k2 := (k1.trans (Chg.grown (wr := fun k => k = b ∨ (Value.slice A1 os.length cc1).ownBlock = some k ∨ (Value.slice A2 0 c2).ownBlock = some k) HG10.out) (fun _ _ e => e) (fun _ _ e => e)).trans (Chg.row (wr := fun k => k = b ∨ (Value.slice A1 os.length cc1).ownBlock = some k ∨ (Value.slice A2 0 c2).ownBlock = some k) HG11.out (fun k hk => .inr (.inr hk))) (fun _ _ e => e) (fun _ _ e => e)
        rw [← hw12]; exact chg_set k2 (.inl rfl)
      have hbs := bs_begin H.out (by rw [HNX.out]; exact f12) r1 r2 hch
      rw [HNX.out] at hbs
      have hf1 : Fr3 w' (.slice A1 os.length cc1) (.slice A8 k8 c8) := fun k hk => by
        rcases HB8.out with e | e
        · exact .inl (e ▸ hk)
        · rw [e] at hk; cases hk; exact .inr (by first | exact Nat.le_succ _ | exact hgV.size | simp)
      have hf2 : Fr3 w' (Value.slice A2 0 c2) (.slice (some ⟨gg, 0, none⟩) 1 cap) := fun k hk => by
        cases hk
        rcases HA11.out with e | e
        · exact .inl e
        · refine .inr ?_
          have a1 := hgV.size
          have a2 := HG8.out.size
          have a3 : w9.heap.size = w8.heap.size := by rw [← hw9]; simp
          have a4 := HG10.out.size
          show w'.heap.size ≤ gg
          omega
      have HBS := Lib.hid hbs
      have HCH := Lib.hid (hch.mono (wr := BW b (.slice A nx cc) (.slice A1 os.length cc1) (Value.slice A2 0 c2)) (fun _ _ e => by
        rcases e with e | e | e
        · exact .inl e
        · exact .inr (.inr (.inl e))
        · exact .inr (.inr (.inr e))))
      rw [hw12]
      clear f12 r1 r2 hch hbs hw12
      go_wp2_with fail
      go_ret
      exact doP_yes rfl rfl HCH.out HBS.out (Fr3.refl _ _) hf1 hf2
  · have hmm : ((m' : Nat) : Int) < ((m' : Nat) : Int) + 1 := by omega
    go_enter Tryz.func69, Tryz.ntmps69
    go_wp2_with fail
    refine (HK.out w).mono ?_
    rintro e w' ⟨rfl, rfl⟩
    go_wp2_with fail
    go_quiet (fail)
    have hgV : w'.grownBy ((w'.drewN nq).alloc (.cells #[.string x] 9)) none := (gr_drewN w' nq none).trans (World.grownBy_alloc (w'.drewN nq) _ none)
    have own1 := HLO.out.alloc (.cells #[.string x] 9)
    go_wp2_with (at_builtin; refine wpList_append_own_at _ rfl _ _ 27 rfl n0 9 i0 (.string .empty) 1 16 Tryz.underlying27 hi0 hz0 hz1 hz2 rfl (by decide) _ _ _ rfl own1 ⟨w'.heap.size, 0, none⟩ 1 1 [.string x] rfl rfl ?a1 ?a2 ?a3 ?a4 ?a5 ?_)
    case a1 => exact cell_one_new _ _ _
    case a2 => simp [Value.oneCell']
    case a3 => simp only [maxLen]; omega
    case a4 => omega
    case a5 => simp; omega
    intro u1 w8 hown8 hg8 _ hb8
    obtain ⟨A8, k8, c8, rfl⟩ := own_form hown8
    have hx8 : C3 w8 b (.slice A nx cc) (.slice A1 os.length cc1) (Value.slice (some ⟨g, 0, none⟩) (m' + 1) c2) 129 := (HBX.out.grown hgV (by simp)).grown hg8 (fun e => HBN.out.1 e.symm)
    have d0 := hx8.c0
    have d1 := hx8.c1
    have d2 := hx8.c2
    have d3 := hx8.f 1
    have HX8 := Lib.hid hx8
    have HO8 := Lib.hid hown8
    have HG8 := Lib.hid hg8
    have HB8 := Lib.hid hb8
    clear hx8 hown8 hg8 hb8 own1
    go_wp2_with fail
    obtain ⟨w9, hw9⟩ : ∃ z, w8.setCell ⟨b, 1, none⟩ (.slice A8 k8 c8) = z := ⟨_, rfl⟩
    obtain ⟨w10, hw10⟩ : ∃ z, w9.drew.alloc (.cells #[.int .i64 (nx : Nat)] 3) = z := ⟨_, rfl⟩
    have hx9 : C3 w9 b (.slice A nx cc) (.slice A8 k8 c8) (Value.slice (some ⟨g, 0, none⟩) (m' + 1) c2) 129 := by rw [← hw9]; exact HX8.out.set1 _
    have g10 : w9.grownBy w10 none := by rw [← hw10]; exact (gr_drewN w9 1 none).trans (World.grownBy_alloc w9.drew _ none)
    have hx10 := hx9.grown g10 (by simp)
    have q0 := hx9.c0
    have q2 := hx9.c2
    have p0 := hx10.c0
    have p2 := hx10.c2
    have hba8 := own_keep (own_keep HBA.out (fun k hk => hgV.block k (HBA.out.lt k hk).2 (by simp))) (fun k hk => HG8.out.block k (Nat.lt_of_lt_of_le (HBA.out.lt k hk).2 hgV.size) (fun e => H12.out k hk e.symm))
    have hba9 : w9.ownsRow n0 3 1 (Value.slice (some ⟨g, 0, none⟩) (m' + 1) c2) (m' + 1) ((bsI os).map (Value.int .i64)) := own_keep hba8 (fun k hk => by rw [← hw9]; exact Below.heap_setCell _ _ _ _ (fun e => HBN.out.2 (by rw [hk]; simpa using e)))
    have hba10 := own_keep hba9 (fun k hk => g10.block k (hba9.lt k hk).2 (by simp))
    have hsz10 : n0 ≤ w10.heap.size := by
      have a1 := hgV.size
      have a2 := HG8.out.size
      have a3 : w9.heap.size = w8.heap.size := by rw [← hw9]; simp
      have a4 := g10.size
      omega
    have HNL : Hid (∀ (j : Nat) (u : Value), ([.int .i64 (nx : Nat)] : List Value)[j]? = some u → w10.cell? ((⟨w9.heap.size, 0, none⟩ : Addr).add j) = some u) := Lib.hid (by rw [← hw10]; exact cell_one_new w9.drew _ _)
    have HX10 := Lib.hid hx10
    have HBA10 := Lib.hid hba10
    have HG10 := Lib.hid g10
    clear hx9 hx10 g10 hba8 hba9 hba10 d0 d1 d2 d3
    go_region_law (refine step_append_lies _ (by rfl) _ _ _ (by rfl) n0 3 i1 _ 1 8 Tryz.underlying32 hi1 hy0 hy1 hy2 rfl (by omega) _ (m' + 1) _ (by rfl) HBA10.out ⟨w9.heap.size, 0, none⟩ 1 1 [.int .i64 (nx : Nat)] (by rfl) (by rfl) HNL.out (by simp [Value.oneCell']) (by omega) (by simp only [maxLen]; omega) (by omega) hsz10 w10.heap.size rfl ?_
                   intro gg cap w11 hown11 hg11 hat11 hlt11
                   have hx11 : C3 w11 b (.slice A nx cc) (.slice A8 k8 c8) (Value.slice (some ⟨g, 0, none⟩) (m' + 1) c2) 129 := HX10.out.grown hg11 (fun e => HBN.out.2 e.symm)
                   have z2 := hx11.c2
                   have zf := hx11.f 2
                   have HX11 := Lib.hid hx11
                   have HO11 := Lib.hid hown11
                   have HG11 := Lib.hid hg11
                   have HA11 := Lib.hid hat11
                   clear hx11 hown11 hg11 hat11)
    all_goals
      clear z2 zf p0 p2 q0 q2
      obtain ⟨w12, hw12⟩ : ∃ z, w11.setCell ⟨b, 2, none⟩ (.slice (some ⟨gg, 0, none⟩) (m' + 1 + 1) cap) = z := ⟨_, rfl⟩
      have f12 : C3 w12 b (.slice A nx cc) (.slice A8 k8 c8) (.slice (some ⟨gg, 0, none⟩) (m' + 1 + 1) cap) 129 := by rw [← hw12]; exact HX11.out.set2 _
      have r1 : w12.ownsRow n0 9 1 (.slice A8 k8 c8) (os.length + 1) ((lpS os).map Value.string ++ [.string (strOfNums [c, v])]) := by
        have a1 := HO8.out
        rw [HX.out] at a1
        have a9 := own_keep a1 (fun k hk => by rw [← hw9]; exact Below.heap_setCell _ _ _ _ (fun e => own_not a1 HX8.out (by decide) (by rw [hk]; simpa using e)) : ∀ k, (Value.slice A8 k8 c8).ownBlock = some k → w9.heap[k]? = w8.heap[k]?)
        have a10 := own_keep a9 (fun k hk => HG10.out.block k (a9.lt k hk).2 (by simp))
        have a11 := own_keep a10 (fun k hk => HG11.out.block k (a10.lt k hk).2 (fun e => by
          obtain ⟨cs, hcs⟩ := own_heap a10 hk
          exact own_not HBA10.out hcs (by decide) e.symm))
        exact own_keep a11 (fun k hk => by rw [← hw12]; exact Below.heap_setCell _ _ _ _ (fun e => own_not a11 HX11.out (by decide) (by rw [hk]; simpa using e)))
      have r2 : w12.ownsRow n0 3 1 (.slice (some ⟨gg, 0, none⟩) (m' + 1 + 1) cap) (os.length + 1) ((bsI os).map (Value.int .i64) ++ [.int .i64 (xs.length : Nat)]) := by
        have a1 := HO11.out
        rw [HNX.out, ← HM.out]
        exact own_keep a1 (fun k hk => by rw [← hw12]; exact Below.heap_setCell _ _ _ _ (fun e => own_not a1 HX11.out (by decide) (by rw [hk]; simpa using e)))
      have hch : Chg (fun k => k = b ∨ (Value.slice A1 os.length cc1).ownBlock = some k ∨ (Value.slice (some ⟨g, 0, none⟩) (m' + 1) c2).ownBlock = some k) w' w12 := by
        have k0 : Chg (fun k => k = b ∨ (Value.slice A1 os.length cc1).ownBlock = some k ∨ (Value.slice (some ⟨g, 0, none⟩) (m' + 1) c2).ownBlock = some k) w' w8 := (Chg.grown hgV).trans (Chg.row (wr := fun k => k = b ∨ (Value.slice A1 os.length cc1).ownBlock = some k ∨ (Value.slice (some ⟨g, 0, none⟩) (m' + 1) c2).ownBlock = some k) HG8.out (fun k hk => .inr (.inl hk))) (fun _ _ e => e) (fun _ _ e => e)
        have k1 : Chg (fun k => k = b ∨ (Value.slice A1 os.length cc1).ownBlock = some k ∨ (Value.slice (some ⟨g, 0, none⟩) (m' + 1) c2).ownBlock = some k) w' w9 := by rw [← hw9]; exact chg_set k0 (.inl rfl)
        have k2 := (k1.trans (Chg.grown (wr := fun k => k = b ∨ (Value.slice A1 os.length cc1).ownBlock = some k ∨ (Value.slice (some ⟨g, 0, none⟩) (m' + 1) c2).ownBlock = some k) HG10.out) (fun _ _ e => e) (fun _ _ e => e)).trans (Chg.row (wr := fun k => k = b ∨ (Value.slice A1 os.length cc1).ownBlock = some k ∨ (Value.slice (some ⟨g, 0, none⟩) (m' + 1) c2).ownBlock = some k) HG11.out (fun k hk => .inr (.inr hk))) (fun _ _ e => e) (fun _ _ e => e)
        rw [← hw12]; exact chg_set k2 (.inl rfl)
      have hbs := bs_begin H.out (by rw [HNX.out]; exact f12) r1 r2 hch
      rw [HNX.out] at hbs
      have hf1 : Fr3 w' (.slice A1 os.length cc1) (.slice A8 k8 c8) := fun k hk => by
        rcases HB8.out with e | e
        · exact .inl (e ▸ hk)
        · rw [e] at hk; cases hk; exact .inr (by first | exact Nat.le_succ _ | exact hgV.size | simp)
      have hf2 : Fr3 w' (Value.slice (some ⟨g, 0, none⟩) (m' + 1) c2) (.slice (some ⟨gg, 0, none⟩) (m' + 1 + 1) cap) := fun k hk => by
        cases hk
        rcases HA11.out with e | e
        · exact .inl e
        · refine .inr ?_
          have a1 := hgV.size
          have a2 := HG8.out.size
          have a3 : w9.heap.size = w8.heap.size := by rw [← hw9]; simp
          have a4 := HG10.out.size
          show w'.heap.size ≤ gg
          omega
      have HBS := Lib.hid hbs
      have HCH := Lib.hid (hch.mono (wr := BW b (.slice A nx cc) (.slice A1 os.length cc1) (Value.slice (some ⟨g, 0, none⟩) (m' + 1) c2)) (fun _ _ e => by
        rcases e with e | e | e
        · exact .inl e
        · exact .inr (.inr (.inl e))
        · exact .inr (.inr (.inr e))))
      rw [hw12]
      clear f12 r1 r2 hch hbs hw12
      go_wp2_with fail
      go_ret
      exact doP_yes rfl rfl HCH.out HBS.out (Fr3.refl _ _) hf1 hf2
end

section
open Go.RowKit

set_option maxRecDepth 100000 in
set_option maxHeartbeats 2000000 in
theorem sdo_two0 (n0 b : Nat) (x : ByteArray) (hs : x.size = 1) (c : Int) (hc : ((x[0].toNat : Nat) : Int) = c) (hk : kS x = 43) (os : List Out) (v0 v1 v2 : Value) (xs : List (Int × Int × Value)) (w : World) (h : BS w n0 b ([], os) v0 v1 v2 xs) (hl : xs.length ≤ 990) (hl2 : os.length ≤ 990) (hn : n0 ≤ w.heap.size) :
    Calls Tryz.prog 69 #[.pointer (some ⟨b, 0, none⟩), .string x] w (DoP n0 b v0 v1 v2 none w) := by
    have hlt : 0 < x.size := by omega
    have hd0 := UInt8.toNat_lt x[0]
    have HK := Lib.hid (fun w => skind_any x w)
    rw [hk] at HK
    clear hk
    have HP := Lib.hid (bs_popN h (by omega) (by omega))
    have H := Lib.hid h
    clear h
    go_enter Tryz.func69, Tryz.ntmps69
    go_wp2_with fail
    refine (HK.out w).mono ?_
    rintro e w' ⟨rfl, rfl⟩
    go_wp2_with fail
    refine HP.out.mono ?_
    rintro e w1 ⟨rfl, hg1⟩
    unfold nodeZ
    obtain ⟨w2, hw2⟩ : ∃ z, w1.alloc (.cells #[.int .u8 0, .int .u8 0, .slice none 0 0] 52) = z := ⟨_, rfl⟩
    have bw2 : C3 w2 w1.heap.size (.int .u8 0) (.int .u8 0) (.slice none 0 0) 52 := by rw [← hw2]; exact c3_new _ _ _ _ _
    have gw2 : w1.grownBy w2 none := by rw [← hw2]; exact World.grownBy_alloc _ _ _
    obtain ⟨w2s, hw2s⟩ : ∃ z, ((w2.setCell ⟨w1.heap.size, 0, none⟩ (.int .u8 0)).setCell ⟨w1.heap.size, 1, none⟩ (.int .u8 0)).setCell ⟨w1.heap.size, 2, none⟩ (.slice none 0 0) = z := ⟨_, rfl⟩
    have gw2s : w1.grownBy w2s none := by rw [← hw2s]; exact gr_laid3n gw2 (Nat.le_refl _) _ _ _
    have rw20 := bw2.c0
    have rw21 := bw2.c1
    have rw22 := bw2.c2
    have rw23 := bw2.f 0
    have rw24 := bw2.f 1
    have rw25 := bw2.f 2
    have bw2s : C3 w2s w1.heap.size (.int .u8 0) (.int .u8 0) (.slice none 0 0) 52 := by rw [← hw2s]; exact bw2.laid
    have g02 := hg1.trans gw2s
    have h2 := H.out.grown g02
    have HP2 := Lib.hid (bs_popN h2 (by omega) (by omega))
    have HG2 := Lib.hid g02
    have HY := Lib.hid bw2s
    clear hg1 gw2 gw2s bw2 bw2s h2 g02
    go_wp2_with fail
    refine HP2.out.mono ?_
    rintro e w3 ⟨rfl, hg3⟩
    have hy3 := HY.out.grown hg3 (by simp)
    unfold nodeZ
    obtain ⟨w4, hw4⟩ : ∃ z, w3.alloc (.cells #[.int .u8 0, .int .u8 0, .slice none 0 0] 52) = z := ⟨_, rfl⟩
    have bw4 : C3 w4 w3.heap.size (.int .u8 0) (.int .u8 0) (.slice none 0 0) 52 := by rw [← hw4]; exact c3_new _ _ _ _ _
    have gw4 : w3.grownBy w4 none := by rw [← hw4]; exact World.grownBy_alloc _ _ _
    obtain ⟨w4s, hw4s⟩ : ∃ z, ((w4.setCell ⟨w3.heap.size, 0, none⟩ (.int .u8 0)).setCell ⟨w3.heap.size, 1, none⟩ (.int .u8 0)).setCell ⟨w3.heap.size, 2, none⟩ (.slice none 0 0) = z := ⟨_, rfl⟩
    have gw4s : w3.grownBy w4s none := by rw [← hw4s]; exact gr_laid3n gw4 (Nat.le_refl _) _ _ _
    have rw40 := bw4.c0
    have rw41 := bw4.c1
    have rw42 := bw4.c2
    have rw43 := bw4.f 0
    have rw44 := bw4.f 1
    have rw45 := bw4.f 2
    have bw4s : C3 w4s w3.heap.size (.int .u8 0) (.int .u8 0) (.slice none 0 0) 52 := by rw [← hw4s]; exact bw4.laid
    have bx := bw4s
    have by8 := hy3.grown gw4s (by simp)
    obtain ⟨w5, hw5⟩ : ∃ z, w4s.drew.alloc (.cells #[.int .u8 0, .int .u8 0, .slice none 0 0, .int .u8 0, .int .u8 0, .slice none 0 0] 52) = z := ⟨_, rfl⟩
    have g5 : w4s.grownBy w5 none := by rw [← hw5]; exact (gr_drewN w4s 1 none).trans (World.grownBy_alloc w4s.drew _ none)
    have x5 := bx.grown g5 (by simp)
    have y5 := by8.grown g5 (by simp)
    have s0 := bx.c0
    have s1 := bx.c1
    have s2 := bx.c2
    have s3 := by8.c0
    have s4 := by8.c1
    have s5 := by8.c2
    have u0' := x5.c0
    have u1' := x5.c1
    have u2' := x5.c2
    have u3' := y5.c0
    have u4' := y5.c1
    have u5' := y5.c2
    have gall := ((HG2.out.trans hg3).trans gw4s).trans g5
    have h5 := H.out.grown gall
    have hsz := gall.size
    have HR := Lib.hid (fun (a c : Int) A0 k0 c0 => bs_pushAny (a := a) (c := c) (A0 := A0) (k0 := k0) (c0 := c0) h5 (by omega) (by omega))
    have HG := Lib.hid gall
    clear hg3 gw4 gw4s bw4 bw4s hy3 bx by8 x5 y5 g5 gall h5 hsz
    go_wp2_with fail
    go_region_law (go_simp
                   go_at_call 102
                   refine (HR.out _ _ _ _ _).mono ?_
                   rintro e w6 ⟨rfl, hc6⟩
                   have HC6 := Lib.hid hc6
                   clear hc6)
    all_goals
      go_wp2_with fail
      go_ret
      exact doP_no rfl rfl (bw_trans (Chg.grown HG.out) HC6.out (Fr3.refl _ _) (Fr3.refl _ _) (Fr3.refl _ _))

set_option maxRecDepth 100000 in
set_option maxHeartbeats 2000000 in
theorem sdo_two1 (n0 b : Nat) (x : ByteArray) (hs : x.size = 1) (c : Int) (hc : ((x[0].toNat : Nat) : Int) = c) (hk : kS x = 43) (t : Tm) (os : List Out) (v0 v1 v2 : Value) (xs : List (Int × Int × Value)) (w : World) (h : BS w n0 b ([t], os) v0 v1 v2 xs) (hl : xs.length ≤ 990) (hl2 : os.length ≤ 990) (hn : n0 ≤ w.heap.size) :
    Calls Tryz.prog 69 #[.pointer (some ⟨b, 0, none⟩), .string x] w (DoP n0 b v0 v1 v2 none w) := by
    have hlt : 0 < x.size := by omega
    have hd0 := UInt8.toNat_lt x[0]
    have HK := Lib.hid (fun w => skind_any x w)
    rw [hk] at HK
    clear hk
    obtain ⟨xa, xc, A0, k0, c0, hcall⟩ := bs_popC h (by omega) (by omega)
    have HP := Lib.hid hcall
    have H := Lib.hid h
    clear h hcall
    go_enter Tryz.func69, Tryz.ntmps69
    go_wp2_with fail
    refine (HK.out w).mono ?_
    rintro e w' ⟨rfl, rfl⟩
    go_wp2_with fail
    refine HP.out.mono ?_
    rintro e w1 ⟨rfl, hc1, u0, xs', hob, hb1, hsn, _⟩
    obtain ⟨w2, hw2⟩ : ∃ z, w1.alloc (.cells #[.int .u8 xa, .int .u8 xc, .slice A0 k0 c0] 52) = z := ⟨_, rfl⟩
    have bw2 : C3 w2 w1.heap.size (.int .u8 xa) (.int .u8 xc) (.slice A0 k0 c0) 52 := by rw [← hw2]; exact c3_new _ _ _ _ _
    have gw2 : w1.grownBy w2 none := by rw [← hw2]; exact World.grownBy_alloc _ _ _
    have h2 := hb1.grown gw2
    have hlen := bs_len h2
    have hlen0 := bs_len H.out
    simp only [List.length_cons, List.length_nil] at hlen hlen0
    have HP2 := Lib.hid (bs_popN h2 (by omega) (by omega))
    have hcg : Chg (BW b v0 v1 v2) w' w2 := (hc1.mono (fun _ _ e => .inl e) : Chg (BW b v0 v1 v2) w' w1).trans (Chg.grown (wr := BW b v0 v1 v2) gw2) (fun _ _ e => e) (fun _ _ e => e)
    have HCG := Lib.hid hcg
    have HY := Lib.hid bw2
    have H2 := Lib.hid h2
    have HOB := Lib.hid hob
    have hszg := hcg.size
    have hxl : xs'.length ≤ 990 := by omega
    clear hc1 hb1 hsn gw2 bw2 h2 hlen hlen0 hcg hob
    go_wp2_with fail
    refine HP2.out.mono ?_
    rintro e w3 ⟨rfl, hg3⟩
    have hy3 := HY.out.grown hg3 (by simp)
    unfold nodeZ
    obtain ⟨w4, hw4⟩ : ∃ z, w3.alloc (.cells #[.int .u8 0, .int .u8 0, .slice none 0 0] 52) = z := ⟨_, rfl⟩
    have bw4 : C3 w4 w3.heap.size (.int .u8 0) (.int .u8 0) (.slice none 0 0) 52 := by rw [← hw4]; exact c3_new _ _ _ _ _
    have gw4 : w3.grownBy w4 none := by rw [← hw4]; exact World.grownBy_alloc _ _ _
    obtain ⟨w4s, hw4s⟩ : ∃ z, ((w4.setCell ⟨w3.heap.size, 0, none⟩ (.int .u8 0)).setCell ⟨w3.heap.size, 1, none⟩ (.int .u8 0)).setCell ⟨w3.heap.size, 2, none⟩ (.slice none 0 0) = z := ⟨_, rfl⟩
    have gw4s : w3.grownBy w4s none := by rw [← hw4s]; exact gr_laid3n gw4 (Nat.le_refl _) _ _ _
    have rw40 := bw4.c0
    have rw41 := bw4.c1
    have rw42 := bw4.c2
    have rw43 := bw4.f 0
    have rw44 := bw4.f 1
    have rw45 := bw4.f 2
    have bw4s : C3 w4s w3.heap.size (.int .u8 0) (.int .u8 0) (.slice none 0 0) 52 := by rw [← hw4s]; exact bw4.laid
    have bx := bw4s
    have by8 := hy3.grown gw4s (by simp)
    obtain ⟨w5, hw5⟩ : ∃ z, w4s.drew.alloc (.cells #[.int .u8 0, .int .u8 0, .slice none 0 0, .int .u8 xa, .int .u8 xc, .slice A0 k0 c0] 52) = z := ⟨_, rfl⟩
    have g5 : w4s.grownBy w5 none := by rw [← hw5]; exact (gr_drewN w4s 1 none).trans (World.grownBy_alloc w4s.drew _ none)
    have x5 := bx.grown g5 (by simp)
    have y5 := by8.grown g5 (by simp)
    have s0 := bx.c0
    have s1 := bx.c1
    have s2 := bx.c2
    have s3 := by8.c0
    have s4 := by8.c1
    have s5 := by8.c2
    have u0' := x5.c0
    have u1' := x5.c1
    have u2' := x5.c2
    have u3' := y5.c0
    have u4' := y5.c1
    have u5' := y5.c2
    have gall := (hg3.trans gw4s).trans g5
    have h5 := H2.out.grown gall
    have hsz := gall.size
    have HR := Lib.hid (fun (a c : Int) A0 k0 c0 => bs_pushAny (a := a) (c := c) (A0 := A0) (k0 := k0) (c0 := c0) h5 (by omega) (by omega))
    have HG := Lib.hid gall
    clear hg3 gw4 gw4s bw4 bw4s hy3 bx by8 x5 y5 g5 gall h5 hsz
    go_wp2_with fail
    go_region_law (go_simp
                   go_at_call 102
                   refine (HR.out _ _ _ _ _).mono ?_
                   rintro e w6 ⟨rfl, hc6⟩
                   have HC6 := Lib.hid hc6
                   clear hc6)
    all_goals
      go_wp2_with fail
      go_ret
      have hfu : Fr3 w' v0 u0 := fun g hg => .inl (HOB.out ▸ hg)
      exact doP_no rfl rfl (bw_trans (HCG.out.trans (Chg.grown (wr := BW b v0 v1 v2) HG.out) (fun _ _ e => e) (fun _ _ e => e)) HC6.out hfu (Fr3.refl _ _) (Fr3.refl _ _))

set_option maxRecDepth 100000 in
set_option maxHeartbeats 2000000 in
theorem sdo_two2 (n0 b : Nat) (x : ByteArray) (hs : x.size = 1) (c : Int) (hc : ((x[0].toNat : Nat) : Int) = c) (hk : kS x = 43) (t s : Tm) (ts : List Tm) (os : List Out) (v0 v1 v2 : Value) (xs : List (Int × Int × Value)) (w : World) (h : BS w n0 b (t :: s :: ts, os) v0 v1 v2 xs) (hl : xs.length ≤ 990) (hl2 : os.length ≤ 990) (hn : n0 ≤ w.heap.size) :
    Calls Tryz.prog 69 #[.pointer (some ⟨b, 0, none⟩), .string x] w (DoP n0 b v0 v1 v2 (some (.two c s t :: ts, os)) w) := by
    have hlt : 0 < x.size := by omega
    have hd0 := UInt8.toNat_lt x[0]
    have HK := Lib.hid (fun w => skind_any x w)
    rw [hk] at HK
    clear hk
    obtain ⟨xa, xc, A0, k0, c0, hcall⟩ := bs_popC h (by omega) (by omega)
    have HP := Lib.hid hcall
    have H := Lib.hid h
    clear h hcall
    go_enter Tryz.func69, Tryz.ntmps69
    go_wp2_with fail
    refine (HK.out w).mono ?_
    rintro e w' ⟨rfl, rfl⟩
    go_wp2_with fail
    refine HP.out.mono ?_
    rintro e w1 ⟨rfl, hc1, u0, xs', hob, hb1, hsn, _⟩
    obtain ⟨w2, hw2⟩ : ∃ z, w1.alloc (.cells #[.int .u8 xa, .int .u8 xc, .slice A0 k0 c0] 52) = z := ⟨_, rfl⟩
    have bw2 : C3 w2 w1.heap.size (.int .u8 xa) (.int .u8 xc) (.slice A0 k0 c0) 52 := by rw [← hw2]; exact c3_new _ _ _ _ _
    have gw2 : w1.grownBy w2 none := by rw [← hw2]; exact World.grownBy_alloc _ _ _
    have h2 := hb1.grown gw2
    have hlen := bs_len h2
    have hlen0 := bs_len H.out
    simp only [List.length_cons] at hlen hlen0
    obtain ⟨ya, yc, B0, j0, d0, hcall2⟩ := bs_popC h2 (by omega) (by omega)
    have HP2 := Lib.hid hcall2
    have hcg : Chg (BW b v0 v1 v2) w' w2 := (hc1.mono (fun _ _ e => .inl e) : Chg (BW b v0 v1 v2) w' w1).trans (Chg.grown (wr := BW b v0 v1 v2) gw2) (fun _ _ e => e) (fun _ _ e => e)
    have HCG := Lib.hid hcg
    have HY := Lib.hid bw2
    have H2 := Lib.hid h2
    have HSN := Lib.hid (hsn.grown gw2)
    have HOB := Lib.hid hob
    have hszg := hcg.size
    have HXL := Lib.hid hlen
    have HXL0 := Lib.hid hlen0
    clear hc1 hb1 hsn gw2 bw2 h2 hlen hlen0 hcg hob hcall2
    go_wp2_with fail
    refine HP2.out.mono ?_
    rintro e w3 ⟨rfl, hc3, u3, xs3, hob3, hb3, hsn3, hk3⟩
    have hy3 : C3 w3 w1.heap.size (.int .u8 xa) (.int .u8 xc) (.slice A0 k0 c0) 52 := by
      have h1 := HY.out
      unfold C3 at h1 ⊢
      refine (hc3.same _ (blk_lt h1) (fun e => ?_)).trans h1
      have h4 := H2.out.box
      unfold C3 at h4
      rw [← e, h1] at h4
      cases h4
    obtain ⟨w4, hw4⟩ : ∃ z, w3.alloc (.cells #[.int .u8 ya, .int .u8 yc, .slice B0 j0 d0] 52) = z := ⟨_, rfl⟩
    have bw4 : C3 w4 w3.heap.size (.int .u8 ya) (.int .u8 yc) (.slice B0 j0 d0) 52 := by rw [← hw4]; exact c3_new _ _ _ _ _
    have gw4 : w3.grownBy w4 none := by rw [← hw4]; exact World.grownBy_alloc _ _ _
    have bx := bw4
    have by8 := hy3.grown gw4 (by simp)
    obtain ⟨w5, hw5⟩ : ∃ z, w4.drew.alloc (.cells #[.int .u8 ya, .int .u8 yc, .slice B0 j0 d0, .int .u8 xa, .int .u8 xc, .slice A0 k0 c0] 52) = z := ⟨_, rfl⟩
    have g5 : w4.grownBy w5 none := by rw [← hw5]; exact (gr_drewN w4 1 none).trans (World.grownBy_alloc w4.drew _ none)
    have x5 := bx.grown g5 (by simp)
    have y5 := by8.grown g5 (by simp)
    have s0 := bx.c0
    have s1 := bx.c1
    have s2 := bx.c2
    have s3 := by8.c0
    have s4 := by8.c1
    have s5 := by8.c2
    have u0' := x5.c0
    have u1' := x5.c1
    have u2' := x5.c2
    have u3' := y5.c0
    have u4' := y5.c1
    have u5' := y5.c2
    have gall := gw4.trans g5
    have h5 := hb3.grown gall
    have hsz := gall.size
    have hsz3 := hc3.size
    have hsz4 := gw4.size
    have hlen5 := bs_len h5
    have hxl := HXL.out
    have hxl0 := HXL0.out
    simp only at hlen5
    have hrow : w5.ownsRow 0 52 3 (.slice (some ⟨w4.heap.size, 0, none⟩) 2 2) 2 (flat3 [(ya, yc, .slice B0 j0 d0), (xa, xc, .slice A0 k0 c0)]) := by rw [← hw5]; exact row_new (w := w4.drew) [(ya, yc, .slice B0 j0 d0), (xa, xc, .slice A0 k0 c0)] #[.int .u8 ya, .int .u8 yc, .slice B0 j0 d0, .int .u8 xa, .int .u8 xc, .slice A0 k0 c0] rfl rfl (by simp)
    have hne : ∀ g, (Value.slice (some ⟨w4.heap.size, 0, none⟩) 2 2).ownBlock = some g → u3.ownBlock ≠ some g := fun g hg => by cases hg; exact own_new_ne hb3.st hsz4
    have hsn5 : SN w5 (fun k => u3.ownBlock ≠ some k) (.two c s t) (c, 0, .slice (some ⟨w4.heap.size, 0, none⟩) 2 2) :=
      ⟨rfl, rfl, (ya, yc, .slice B0 j0 d0), (xa, xc, .slice A0 k0 c0), hrow, hne, by rw [hob3]; exact hsn3.grown gall, by rw [hob3, HOB.out]; exact (hk3 _ _ _ HSN.out).grown gall⟩
    have HR := Lib.hid (bs_pushC h5 hsn5 (by omega) (by omega))
    have HC3 := Lib.hid hc3
    have HG := Lib.hid gall
    have HOB3 := Lib.hid hob3
    clear hc3 hb3 hsn3 hk3 gw4 bw4 hy3 bx by8 x5 y5 g5 gall h5 hsz hsz3 hsz4 hlen5 hxl hxl0 hrow hne hsn5 hob3
    go_wp2_with fail
    go_region_law (go_simp
                   go_at_call 102
                   refine HR.out.mono ?_
                   rintro e w6 ⟨rfl, hc6, u6, xs6, hb6, hf6⟩
                   have HC6 := Lib.hid hc6
                   have HB6 := Lib.hid hb6
                   have HF6 := Lib.hid hf6
                   clear hc6 hb6 hf6)
    all_goals
      go_wp2_with fail
      go_ret
      have hfu : Fr3 w' v0 u3 := fun g hg => .inl (by rw [HOB3.out, HOB.out] at hg; exact hg)
      have hcg2 : Chg (BW b v0 v1 v2) w' w5 := HCG.out.trans ((HC3.out.mono (fun _ _ e => .inl e) : Chg (BW b v0 v1 v2) w2 w3).trans (Chg.grown (wr := BW b v0 v1 v2) HG.out) (fun _ _ e => e) (fun _ _ e => e)) (fun _ _ e => e) (fun _ _ e => e)
      exact doP_yes rfl rfl (bw_trans hcg2 HC6.out hfu (Fr3.refl _ _) (Fr3.refl _ _)) HB6.out (hfu.trans HF6.out hcg2.size) (Fr3.refl _ _) (Fr3.refl _ _)
end

section
open Go.RowKit

set_option maxRecDepth 100000 in
set_option maxHeartbeats 1000000 in
theorem sdo_fin (n0 b : Nat) (x : ByteArray) (hs : x.size = 1) (c : Int) (hc : ((x[0].toNat : Nat) : Int) = c) (hk : kS x = 93) (r : Option MS) (v0 v1 v2 : Value) (w : World) (hE : Calls Tryz.prog 104 #[.pointer (some ⟨b, 0, none⟩), .int .u8 c] w (DoP n0 b v0 v1 v2 r w)) :
    Calls Tryz.prog 69 #[.pointer (some ⟨b, 0, none⟩), .string x] w (DoP n0 b v0 v1 v2 r w) := by
  have hlt : 0 < x.size := by omega
  have hd0 := UInt8.toNat_lt x[0]
  have HK := Lib.hid (fun w => skind_any x w)
  rw [hk] at HK
  have HE := Lib.hid hE
  clear hk hE
  go_enter Tryz.func69, Tryz.ntmps69
  go_wp2_with fail
  refine (HK.out w).mono ?_
  rintro e w' ⟨rfl, rfl⟩
  go_wp2_with fail
  refine HE.out.mono ?_
  rintro e w1 hd
  obtain rfl := doP_ret hd
  have HD := Lib.hid hd
  clear hd
  go_wp2_with fail
  go_ret
  exact HD.out

theorem insOf_cases {x : ByteArray} {i : Ins} (h : insOf x = some i) : (x.size = 1 ∧ ins1 (ba x 0) = some i) ∨ (x.size = 2 ∧ (ba x 0 = 91 ∨ ba x 0 = 123) ∧ isL (ba x 1) = true ∧ i = .beg (ba x 0) (ba x 1)) := by
  unfold insOf at h
  by_cases h1 : x.size = 1
  · rw [if_pos h1] at h
    exact .inl ⟨h1, h⟩
  · rw [if_neg h1] at h
    by_cases h2 : x.size = 2 ∧ (ba x 0 = 91 ∨ ba x 0 = 123) ∧ isL (ba x 1) = true
    · rw [if_pos h2] at h
      cases h
      exact .inr ⟨h2.1, h2.2.1, h2.2.2, rfl⟩
    · rw [if_neg h2] at h
      cases h
theorem ins1_is {c : Int} {i : Ins} (h : ins1 c = some i) : (isD c = true ∧ i = .dig c) ∨ (isD c = false ∧ i = .var c) ∨ i = .pre c ∨ i = .two c ∨ i = .fin c := by
  unfold ins1 at h
  cases hD : isD c with
  | true => rw [hD, if_pos rfl] at h; cases h; exact .inl ⟨rfl, rfl⟩
  | false =>
    rw [hD, if_neg (by simp)] at h
    split at h
    · cases h; exact .inr (.inl ⟨rfl, rfl⟩)
    · split at h
      · cases h; exact .inr (.inr (.inl rfl))
      · split at h
        · cases h; exact .inr (.inr (.inr (.inl rfl)))
        · split at h
          · cases h; exact .inr (.inr (.inr (.inr rfl)))
          · cases h

theorem sdo_any (n0 b : Nat) (x : ByteArray) (n : Nat) (m : MS) (hT : Told7 n m) (hn : n ≤ 900) (v0 v1 v2 : Value) (xs : List (Int × Int × Value)) (w : World) (h : BS w n0 b m v0 v1 v2 xs) (hw : n0 ≤ w.heap.size) :
    Calls Tryz.prog 69 #[.pointer (some ⟨b, 0, none⟩), .string x] w (DoP n0 b v0 v1 v2 (stepB x m) w) := by
  have hl : xs.length ≤ 990 := by
    have h1 := bs_len h
    have h2 := hT.hg
    rw [hgt_eq] at h2
    omega
  have hl2 : m.2.length ≤ 990 := by have := hT.lv; omega
  have hok := hT.ok
  clear hT
  unfold stepB
  cases hi : insOf x with
  | none => exact sdo_bad n0 b x (by unfold kS; rw [hi]) v0 v1 v2 w
  | some i =>
    obtain ⟨ts, os⟩ := m
    simp only at hl2
    rcases insOf_cases hi with ⟨hs, h1⟩ | ⟨hs, h0, hv, rfl⟩
    · have hlt : 0 < x.size := by omega
      have hb := ba_in hlt
      have hkk : kS x = match some i with | none => 0 | some (.dig _) => 97 | some (.var _) => 97 | some (.pre _) => 83 | some (.two _) => 43 | some (.beg _ _) => 91 | some (.fin _) => 93 := by unfold kS; rw [hi]; rfl
      obtain ⟨c, hc⟩ : ∃ c : Int, ((x[0].toNat : Nat) : Int) = c := ⟨_, rfl⟩
      rw [hb, hc] at h1
      rcases ins1_is h1 with ⟨hd, rfl⟩ | ⟨hd, rfl⟩ | rfl | rfl | rfl
      · exact sdo_leaf n0 b x hs (.dig c) c hc hkk (.inl ⟨hd, rfl⟩) (ts, os) v0 v1 v2 xs w h hl hw
      · exact sdo_leaf n0 b x hs (.var c) c hc hkk (.inr ⟨hd, rfl⟩) (ts, os) v0 v1 v2 xs w h hl hw
      · exact sdo_pre n0 b x hs c hc hkk (ts, os) v0 v1 v2 xs w h hl hl2 hw
      · match ts with
        | [] => exact sdo_two0 n0 b x hs c hc hkk os v0 v1 v2 xs w h hl hl2 hw
        | [t] => exact sdo_two1 n0 b x hs c hc hkk t os v0 v1 v2 xs w h hl hl2 hw
        | t :: s :: ts => exact sdo_two2 n0 b x hs c hc hkk t s ts os v0 v1 v2 xs w h hl hl2 hw
      · refine sdo_fin n0 b x hs c hc hkk _ v0 v1 v2 w ?_
        match os with
        | [] =>
          have e : step (.fin c) (ts, []) = none := by
            match ts with
            | [] => rfl
            | [_] => rfl
            | _ :: _ :: _ => rfl
          simp only [e]
          exact send_none n0 b c ts v0 v1 v2 xs w h
        | o :: os =>
          have ho := hok.2 o (by simp)
          simp only [List.length_cons] at hl2
          match ts with
          | [y] =>
            by_cases hcc : o.c + 2 = c
            · have e : step (.fin c) ([y], o :: os) = some (.loop o.c o.v o.over y :: o.low, os) := by simp only [step]; rw [if_pos hcc]
              simp only [e]
              exact send_ok n0 b c y o os v0 v1 v2 xs w h hl (by omega) hw ho.1 ho.2.1 hcc
            · have e : step (.fin c) ([y], o :: os) = none := by simp only [step]; rw [if_neg hcc]
              simp only [e]
              exact send_bad n0 b c [y] o os v0 v1 v2 xs w h hl (by omega) ho.1 ho.2.1 (.inl hcc)
          | [] => exact send_bad n0 b c [] o os v0 v1 v2 xs w h hl (by omega) ho.1 ho.2.1 (.inr (by simp))
          | y :: z :: ts => exact send_bad n0 b c (y :: z :: ts) o os v0 v1 v2 xs w h hl (by omega) ho.1 ho.2.1 (.inr (by simp))
    · have hkk : kS x = 91 := by unfold kS; rw [hi]
      match ts with
      | [] => exact sdo_beg0 n0 b x hkk os v0 v1 v2 xs w h hl hl2
      | t :: ts => exact sdo_beg1 n0 b x hs (ba x 0) (ba x 1) rfl rfl hkk t ts os v0 v1 v2 xs w h hl hl2 hw
end
end

/-! CVal -/
section
section
open Go.RowKit Go.Shelf
attribute [local go_sem] Oper.semAt_some

/-- An instruction's three numbers. -/
def ri3 (x : ByteArray) : Int × Int × Int := if x.size = 1 ∧ kd (ba x 0) ≠ 5 then (kd (ba x 0), ba x 0, 0)
  else if x.size = 2 ∧ kd (ba x 0) = 5 ∧ isL (ba x 1) = true then (5, ba x 0, ba x 1) else (0, 0, 0)
theorem riV_eq (x : ByteArray) : riV x = .agg #[.int .i64 (ri3 x).1, .int .u8 (ri3 x).2.1, .int .u8 (ri3 x).2.2] := by
  unfold riV ri3
  split
  · rfl
  · split <;> rfl
def cellsI (x : ByteArray) : List Value := [.int .i64 (ri3 x).1, .int .u8 (ri3 x).2.1, .int .u8 (ri3 x).2.2]
def flatI (l : List ByteArray) : List Value := l.flatMap cellsI
theorem flatI_snoc (l : List ByteArray) (x : ByteArray) : flatI (l ++ [x]) = flatI l ++ cellsI x := by simp [flatI]
theorem flatI_len (l : List ByteArray) : (flatI l).length = l.length * 3 := by
  induction l with
  | nil => rfl
  | cons x l ih => simp only [flatI, List.flatMap_cons, List.length_append] at ih ⊢; rw [ih]; simp [cellsI]; omega

theorem infoIns : (Tryz.prog.info? 66).map (fun i => (i.zero, i.size, i.bytes)) = some (some (.agg #[.int .i64 0, .int .u8 0, .int .u8 0]), 3, 16) := by kernel_rfl

/-- The types of the reader's blocks. -/
def RT (T : TypeId) : Prop := NT T ∨ XT T
theorem own_keepT {w w' : World} {base n size : Nat} {e : TypeId} {v : Value} {xs : List Value} (h : w.ownsRow base e size v n xs) (hk : ∀ (k : Nat) (cs : Array Value) (fr : Nat × Nat), w.heap[k]? = some (.cells cs e fr) → w'.heap[k]? = some (.cells cs e fr)) : w'.ownsRow base e size v n xs :=
  own_keep h (fun g hg => by obtain ⟨cs, hcs⟩ := own_heap h hg; rw [hcs]; exact hk g cs _ hcs)
theorem TS.keepT {w w' : World} {n0 : Nat} {L : List Nat} {ts : List Tm} {v : Value} {vs : List Value} (h : TS w n0 L ts v vs) (hk : ∀ (k : Nat) (cs : Array Value) (T : TypeId) (fr : Nat × Nat), RT T → w.heap[k]? = some (.cells cs T fr) → w'.heap[k]? = some (.cells cs T fr)) : TS w' n0 L ts v vs :=
  ⟨own_keepT h.1 (fun k cs fr => hk k cs _ fr (.inr (.inl rfl))), All2.mono (fun t v ht => PT.keepT (fun b xs T fr _ hT hh => hk b xs T fr (.inl hT) hh) (fun _ hb _ => hb) t v ht) _ _ h.2⟩
theorem OS.keepT {w w' : World} {n0 : Nat} {L : List Nat} (hk : ∀ (k : Nat) (cs : Array Value) (T : TypeId) (fr : Nat × Nat), RT T → w.heap[k]? = some (.cells cs T fr) → w'.heap[k]? = some (.cells cs T fr)) : ∀ {os : List Out} {ps : List Pnd}, OS w n0 L os ps → OS w' n0 L os ps
  | [], [], _ => trivial
  | _ :: _, _ :: _, ⟨h1, h2⟩ => ⟨⟨h1.base, hk _ _ _ _ (.inl (.inr (.inr rfl))) h1.heap, PT.keepT (fun b xs T fr _ hT hh => hk b xs T fr (.inl hT) hh) (fun _ hb _ => hb) _ _ h1.over, h1.row.keepT hk⟩, OS.keepT hk h2⟩
  | [], _ :: _, h => h.elim
  | _ :: _, [], h => h.elim
theorem RS.keepT {w w' : World} {n0 b : Nat} {m : MS} {v0 v1 : Value} {vs : List Value} {ps : List Pnd} (h : RS w n0 b m v0 v1 vs ps) (hk : ∀ (k : Nat) (cs : Array Value) (T : TypeId) (fr : Nat × Nat), RT T → w.heap[k]? = some (.cells cs T fr) → w'.heap[k]? = some (.cells cs T fr)) : RS w' n0 b m v0 v1 vs ps :=
  ⟨h.base, hk _ _ _ _ (.inr (.inr (.inr (.inl rfl)))) h.box, h.cur.keepT hk, own_keepT h.row (fun k cs fr => hk k cs _ fr (.inr (.inr (.inl rfl)))), OS.keepT hk h.outs, h.nodup, h.apart⟩

/-- The blocks that rounds may write. -/
def XC (g : Nat) (k : Nat) (T : TypeId) : Prop := g ≤ k ∧ (XT T ∨ T = 66 ∨ T = 59)

/-- Between two rounds. -/
structure RdI (w : World) (g : Nat) (pre : List ByteArray) (W : World) : Prop where
  gr : w.grownBy W none
  r0 : W.heap[g]? = some (.cells #[.slice none 0 0, .nilIface] 59 (0, 0))
  r1 : W.heap[g + 1]? = some (.cells #[.bool false] 4 (0, 0))
  pr : ∃ iv, W.heap[g + 2]? = some (.cells #[iv, .nilIface] 59 (0, 0)) ∧ W.ownsRow g 66 3 iv pre.length (flatI pre)
  rs : ∃ m v0 v1 vs ps, runB pre ([], []) = some m ∧ RS W g (g + 3) m v0 v1 vs ps
/-- A round has found that it is no code. -/
structure RdX (w : World) (g : Nat) (s : ByteArray) (W : World) : Prop where
  gr : w.grownBy W none
  r0 : W.heap[g]? = some (.cells #[.slice none 0 0, .nilIface] 59 (0, 0))
  r1 : W.heap[g + 1]? = some (.cells #[.bool false] 4 (0, 0))
  no : runB (cutB s) ([], []) = none

theorem RdI.keep {w W W' : World} {g : Nat} {pre : List ByteArray} (h : RdI w g pre W) (hg : w.grownBy W' none) (hk : ∀ (k : Nat) (cs : Array Value) (T : TypeId) (fr : Nat × Nat), (RT T ∨ T = 59 ∨ T = 4 ∨ T = 66) → W.heap[k]? = some (.cells cs T fr) → W'.heap[k]? = some (.cells cs T fr)) : RdI w g pre W' := by
  obtain ⟨iv, hp, ho⟩ := h.pr
  obtain ⟨m, v0, v1, vs, ps, hm, hr⟩ := h.rs
  exact ⟨hg, hk _ _ _ _ (.inr (.inl rfl)) h.r0, hk _ _ _ _ (.inr (.inr (.inl rfl))) h.r1, ⟨iv, hk _ _ _ _ (.inr (.inl rfl)) hp, own_keepT ho (fun k cs fr => hk k cs _ fr (.inr (.inr (.inr rfl))))⟩, m, v0, v1, vs, ps, hm, hr.keepT (fun k cs T fr hT => hk k cs T fr (.inl hT))⟩
theorem RdX.keep {w W W' : World} {g : Nat} {s : ByteArray} (h : RdX w g s W) (hg : w.grownBy W' none) (hk : ∀ (k : Nat) (cs : Array Value) (T : TypeId) (fr : Nat × Nat), (T = 59 ∨ T = 4) → W.heap[k]? = some (.cells cs T fr) → W'.heap[k]? = some (.cells cs T fr)) : RdX w g s W' :=
  ⟨hg, hk _ _ _ _ (.inl rfl) h.r0, hk _ _ _ _ (.inr rfl) h.r1, h.no⟩
theorem cells_kept {W W' : World} {row : Option Nat} (hg : W.grownBy W' row) (hr : ∀ r, row = some r → ∃ o : Obj, W.heap[r]? = some o ∧ o.isCells = false) (k : Nat) (cs : Array Value) (T : TypeId) (fr : Nat × Nat) (h : W.heap[k]? = some (.cells cs T fr)) : W'.heap[k]? = some (.cells cs T fr) :=
  (hg.block k (blk_lt h) (fun e => by
    obtain ⟨o, ho, hc⟩ := hr k e.symm
    rw [h] at ho; cases ho; cases hc)).trans h
theorem rdI_own (w : World) (g : Nat) (hg : w.heap.size = g) {B : Nat} (hB : g ≤ B) : OwnFrom B (RdI w g) := fun pre A C row hs hgr hr =>
  hs.keep (gr_ownF hs.gr hgr (fun k e => by have := (hr k e).1; omega)) (fun k cs T fr _ h => cells_kept hgr (fun r e => (hr r e).2) k cs T fr h)
theorem rdX_own (w : World) (g : Nat) (s : ByteArray) (hg : w.heap.size = g) {B : Nat} (hB : g ≤ B) : OwnFrom B (fun (_ : List ByteArray) W => RdX w g s W) := fun pre A C row hs hgr hr =>
  hs.keep (gr_ownF hs.gr hgr (fun k e => by have := (hr k e).1; omega)) (fun k cs T fr _ h => cells_kept hgr (fun r e => (hr r e).2) k cs T fr h)
theorem rdI_box (w : World) (g b0 : Nat) (hg : w.heap.size = g) (hb : g ≤ b0) : ∀ pre A u v, A.heap[b0]? = some (.cells #[u] 9 (0, 0)) → RdI w g pre A → RdI w g pre (A.setCell ⟨b0, 0, none⟩ v) := fun pre A u v hA h =>
  h.keep (gr_ownF h.gr (gr_set A b0 0 v) (fun k e => by cases e; omega)) (fun k cs T fr hT hk => (Below.heap_setCell _ _ _ _ (fun e => by
    have e' : k = b0 := by simpa using e
    rw [← e', hk] at hA
    cases hA
    rcases hT with (e | e) | e | e | e
    · rcases e with e | e | e <;> exact absurd e (by decide)
    · rcases e with e | e | e | e <;> exact absurd e (by decide)
    all_goals exact absurd e (by decide))).trans hk)

theorem chgX_keeps {g : Nat} {V V' : World} (h : Chg (WX g V) V V') : KeepsK (XC g) V V' :=
  ⟨h.size, fun k o hk ho => (h.same k (Array.getElem?_eq_some_iff.1 hk).1 (fun ⟨h1, cs, T, fr, h2, h3⟩ => by
    rw [hk] at h2
    exact ho cs T fr (Option.some.inj h2) ⟨h1, .inl h3⟩)).trans hk⟩
theorem gr_chgX {w V V' : World} {g : Nat} (h : w.grownBy V none) (hg : w.heap.size = g) (hc : Chg (WX g V) V V') : w.grownBy V' none :=
  ⟨hc.os.trans h.os, hc.tape.trans h.tape, hc.output.trans h.output, Nat.le_trans h.size hc.size, fun k hk _ => (hc.same k (Nat.lt_of_lt_of_le hk h.size) (fun hw => by have := hw.1; omega)).trans (h.block k hk (by simp))⟩
theorem chgX_cells {g : Nat} {V V' : World} (h : Chg (WX g V) V V') {k : Nat} {cs : Array Value} {T : TypeId} {fr : Nat × Nat} (hk : V.heap[k]? = some (.cells cs T fr)) (hT : ¬ XT T) : V'.heap[k]? = some (.cells cs T fr) :=
  (h.same k (blk_lt hk) (fun ⟨_, cs', T', fr', h2, h3⟩ => by rw [hk] at h2; cases h2; exact hT h3)).trans hk
theorem not_xt_prog : ¬ XT 59 := by rintro (h | h | h | h) <;> exact absurd h (by decide)
theorem not_xt_bool : ¬ XT 4 := by rintro (h | h | h | h) <;> exact absurd h (by decide)
theorem not_xt_ins : ¬ XT 66 := by rintro (h | h | h | h) <;> exact absurd h (by decide)

theorem KeepsK.ofChg {X : Nat → TypeId → Prop} {wr : Nat → Prop} {V V' : World} (h : Chg wr V V') (hw : ∀ k, wr k → ∃ cs T fr, V.heap[k]? = some (.cells cs T fr) ∧ X k T) : KeepsK X V V' :=
  ⟨h.size, fun k o hk ho => (h.same k (Array.getElem?_eq_some_iff.1 hk).1 (fun e => by
    obtain ⟨cs, T, fr, h2, h3⟩ := hw k e
    rw [hk] at h2
    exact ho cs T fr (Option.some.inj h2) h3)).trans hk⟩
theorem chg_cells {wr : Nat → Prop} {V V' : World} (h : Chg wr V V') {k : Nat} {cs : Array Value} {T : TypeId} {fr : Nat × Nat} (hk : V.heap[k]? = some (.cells cs T fr)) (hw : wr k → False) : V'.heap[k]? = some (.cells cs T fr) := (h.same k (blk_lt hk) hw).trans hk

/-- The two results' boxes, behind the mark's block. -/
theorem res_boxes {V : World} {g D : Nat} {a b r : Value} (h0 : V.heap[g]? = some (.cells #[a, b] 59 (0, 0))) (h1 : V.heap[g + 1]? = some (.cells #[r] 4 (0, 0))) (hD : g + 2 ≤ D) (o : Obj) :
    (V.putObj D o).cell? ⟨g, 0, none⟩ = some a ∧ (V.putObj D o).cell? ⟨g, 1, none⟩ = some b ∧ (V.putObj D o).cell? ⟨g + 1, 0, none⟩ = some r :=
  ⟨cell_of_row _ g 0 _ _ (0, 0) ((World.putObj_heap_other (by omega)).trans h0), cell_of_row _ g 1 _ _ (0, 0) ((World.putObj_heap_other (by omega)).trans h0), cell_of_row _ (g + 1) 0 _ _ (0, 0) ((World.putObj_heap_other (by omega)).trans h1)⟩

/-- What is put into the results' boxes. -/
def putR (V : World) (g : Nat) (a b r : Value) : World := ((V.setCell ⟨g, 0, none⟩ a).setCell ⟨g, 1, none⟩ b).setCell ⟨g + 1, 0, none⟩ r
theorem putR_same {V : World} {g k : Nat} {a b r : Value} (h0 : k ≠ g) (h1 : k ≠ g + 1) : (putR V g a b r).heap[k]? = V.heap[k]? :=
  (Below.heap_setCell _ _ _ _ h1).trans ((Below.heap_setCell _ _ _ _ h0).trans (Below.heap_setCell _ _ _ _ h0))
theorem putR_res {V : World} {g : Nat} {a0 b0 r0 a b r : Value} (hp : Pr V g 59 a0 b0) (hb : V.heap[g + 1]? = some (.cells #[r0] 4 (0, 0))) :
    (putR V g a b r).heap[g]? = some (.cells #[a, b] 59 (0, 0)) ∧ (putR V g a b r).heap[g + 1]? = some (.cells #[r] 4 (0, 0)) := by
  refine ⟨(Below.heap_setCell _ _ _ _ (by simp)).trans ((hp.set0 a).set1 b), ?_⟩
  have h1 : (((V.setCell ⟨g, 0, none⟩ a).setCell ⟨g, 1, none⟩ b)).heap[g + 1]? = some (.cells #[r0] 4 (0, 0)) := (Below.heap_setCell _ _ _ _ (by simp)).trans ((Below.heap_setCell _ _ _ _ (by simp)).trans hb)
  unfold putR
  simp [World.setCell, Array.getElem?_modify] at h1 ⊢
  simp [h1]
theorem putR_gr {w V : World} {g : Nat} {a b r : Value} (h : w.grownBy V none) (hg : w.heap.size = g) : w.grownBy (putR V g a b r) none :=
  gr_ownF (gr_ownF (gr_ownF h (gr_set V g 0 _) (fun k e => by cases e; omega)) (gr_set _ g 1 _) (fun k e => by cases e; omega)) (gr_set _ (g + 1) 0 _) (fun k e => by cases e; omega)
theorem putObj_cells {V : World} {D k : Nat} {o : Obj} {ds : Option (List Deferred)} {cs : Array Value} {T : TypeId} {fr : Nat × Nat} (hD : V.heap[D]? = some (.deferred ds)) (h : V.heap[k]? = some (.cells cs T fr)) : (V.putObj D o).heap[k]? = some (.cells cs T fr) :=
  (World.putObj_heap_other (fun e => by subst e; rw [hD] at h; cases h)).trans h

/-- How readCode ends. -/
def ReadP (s : ByteArray) (w : World) (e : Ending) (w' : World) : Prop := w.grownBy w' none ∧ match codeT s with
  | some t => ∃ iv xv, e = .returned (.tuple #[.agg #[iv, xv], .bool true]) ∧ w'.ownsRow w.heap.size 66 3 iv (cutB s).length (flatI (cutB s)) ∧ PT w' (fun _ => True) t xv
  | none => e = .returned (.tuple #[.agg #[.slice none 0 0, .nilIface], .bool false])

set_option maxRecDepth 100000 in
set_option maxHeartbeats 1000000 in
theorem readc_long (s : ByteArray) (w : World) (hs : 200 < s.size) :
    Calls Tryz.prog 37 #[.string s] w (ReadP s w) := by
  have hr : codeT s = none := by unfold codeT; rw [if_pos hs]
  have HR := Lib.hid hr
  have hd : (((s.size : Nat) : Int) > 200) := by omega
  obtain ⟨n, hn⟩ : ∃ n, s.size = n := ⟨_, rfl⟩
  rw [hn] at hs hd
  clear hr
  go_enter Tryz.func37, Tryz.ntmps37
  go_wp2_with fail
  refine bodyPost_ret (v := .tuple #[.agg #[.slice none 0 0, .nilIface], .bool false]) (by simp [results, Tryz.results37, go_sem]) rfl ?_
  refine ⟨(World.grownBy_alloc _ _ _).trans (World.grownBy_alloc _ _ _), ?_⟩
  rw [HR.out]

theorem readP_none {s : ByteArray} {w w' : World} {e : Ending} (hr : codeT s = none) (hg : w.grownBy w' none) (he : e = .returned (.tuple #[.agg #[.slice none 0 0, .nilIface], .bool false])) : ReadP s w e w' := by
  unfold ReadP; rw [hr]; exact ⟨hg, he⟩
theorem readP_some {s : ByteArray} {t : Tm} {w w' : World} {e : Ending} {iv xv : Value} (hr : codeT s = some t) (hg : w.grownBy w' none) (he : e = .returned (.tuple #[.agg #[iv, xv], .bool true]))
    (ho : w'.ownsRow w.heap.size 66 3 iv (cutB s).length (flatI (cutB s))) (hp : PT w' (fun _ => True) t xv) : ReadP s w e w' := by
  unfold ReadP; rw [hr]; exact ⟨hg, iv, xv, he, ho, hp⟩

set_option maxRecDepth 100000 in
set_option maxHeartbeats 4000000 in
theorem readc_in (s : ByteArray) (w : World) (hs : s.size ≤ 200) :
    Calls Tryz.prog 37 #[.string s] w (ReadP s w) := by
  obtain ⟨i0, hi0, hz0, hz1, hz2⟩ : ∃ i : TypeInfo, Tryz.prog.info? 66 = some i ∧ i.zero = some (.agg #[.int .i64 0, .int .u8 0, .int .u8 0]) ∧ i.size = 3 ∧ i.bytes = 16 := by
    obtain ⟨i, hi, hzz⟩ := Option.map_eq_some_iff.1 infoIns
    simp only [Prod.mk.injEq] at hzz
    exact ⟨i, hi, hzz.1, hzz.2.1, hzz.2.2⟩
  obtain ⟨g, hg⟩ : ∃ g, w.heap.size = g := ⟨_, rfl⟩
  have hd : ¬ (((s.size : Nat) : Int) > 200) := by omega
  obtain ⟨sz, hsz⟩ : ∃ n, s.size = n := ⟨_, rfl⟩
  have HSZ := Lib.hid hsz
  obtain ⟨w1, hw1⟩ : ∃ z, w.alloc (.cells #[.slice none 0 0, .nilIface] 59) = z := ⟨_, rfl⟩
  obtain ⟨w2, hw2⟩ : ∃ z, w1.alloc (.cells #[.bool false] 4) = z := ⟨_, rfl⟩
  obtain ⟨w3, hw3⟩ : ∃ z, w2.alloc (.cells #[.slice none 0 0, .nilIface] 59) = z := ⟨_, rfl⟩
  obtain ⟨w4, hw4⟩ : ∃ z, w3.alloc (.cells #[.slice none 0 0, .slice none 0 0] 106) = z := ⟨_, rfl⟩
  have z1 : w1.heap.size = g + 1 := by rw [← hw1, ← hg]; simp
  have z2 : w2.heap.size = g + 2 := by rw [← hw2]; simp [z1]
  have z3 : w3.heap.size = g + 3 := by rw [← hw3]; simp [z2]
  have z4 : w4.heap.size = g + 4 := by rw [← hw4]; simp [z3]
  have HSP := Lib.hid (split_call s w4)
  rw [z4] at HSP
  have HZ := Lib.hid (And.intro z1 (And.intro z2 (And.intro z3 z4)))
  rw [hsz] at hd
  refine (callsIn_wide (n := 3)).1 ?_
  refine callsIn_of_wp_marks Tryz.func37 rfl trivial ?_ rfl
  simp only [Tryz.ntmps37, List.size_toArray, List.length_cons, List.length_nil, Nat.reduceAdd, Nat.reduceSub, Array.replicate_succ, Array.replicate_zero, List.push_toArray, List.append_toArray, List.nil_append, List.cons_append]
  gi_wp2_with (refine ⟨trivial, ?_⟩; gi_at_call 61; refine (callsIn_wide.2 HSP.out).mono ?_; clear HSP; rintro e w5 ⟨rfl, hg5, hs5⟩)
  have hz5 : g + 7 ≤ w5.heap.size := by
    have := hs5.k
    have := blk_lt this
    omega
  have g1 : w.grownBy w1 none := by rw [← hw1]; exact World.grownBy_alloc _ _ _
  have g2 : w1.grownBy w2 none := by rw [← hw2]; exact World.grownBy_alloc _ _ _
  have g3 : w2.grownBy w3 none := by rw [← hw3]; exact World.grownBy_alloc _ _ _
  have g4 : w3.grownBy w4 none := by rw [← hw4]; exact World.grownBy_alloc _ _ _
  have b1 : w1.heap[g]? = some (.cells #[.slice none 0 0, .nilIface] 59 (0, 0)) := by rw [← hw1, ← hg]; exact heap_alloc_new _ _
  have b2 : w2.heap[g + 1]? = some (.cells #[.bool false] 4 (0, 0)) := by rw [← hw2, ← z1]; exact heap_alloc_new _ _
  have b3 : w3.heap[g + 2]? = some (.cells #[.slice none 0 0, .nilIface] 59 (0, 0)) := by rw [← hw3, ← z2]; exact heap_alloc_new _ _
  have b4 : w4.heap[g + 3]? = some (.cells #[.slice none 0 0, .slice none 0 0] 106 (0, 0)) := by rw [← hw4, ← z3]; exact heap_alloc_new _ _
  have gA := g4.trans hg5
  have gB := g3.trans gA
  have gC := g2.trans gB
  have h0 : RdI w g [] w5 := ⟨g1.trans gC, (gC.block _ (by omega) (by simp)).trans b1, (gB.block _ (by omega) (by simp)).trans b2, ⟨.slice none 0 0, (gA.block _ (by omega) (by simp)).trans b3, ⟨rfl, .inl ⟨rfl, rfl⟩⟩⟩,
    ([], []), .slice none 0 0, .slice none 0 0, [], [], rfl, by omega, (hg5.block _ (by omega) (by simp)).trans b4, ⟨⟨rfl, .inl ⟨rfl, rfl⟩⟩, trivial⟩, ⟨rfl, .inl ⟨rfl, rfl⟩⟩, trivial, List.nodup_nil, List.pairwise_cons.2 ⟨fun _ h => by simp at h, List.Pairwise.nil⟩⟩
  have HZ5 := Lib.hid hz5
  have HSL := Lib.hid hs
  clear hw1 hw2 hw3 hw4 z1 z2 z3 z4 HZ g1 g2 g3 g4 b1 b2 b3 b4 gA gB gC hg5 hsz hs hd
  have hX0 : ¬ XC g (g + 4) 9 := by rintro ⟨_, (h | h | h | h) | h | h⟩ <;> exact absurd h (by decide)
  have hX1 : ¬ XC g (g + 4 + 1) 9 := by rintro ⟨_, (h | h | h | h) | h | h⟩ <;> exact absurd h (by decide)
  have hX2 : ¬ XC g (g + 4 + 2) 3 := by rintro ⟨_, (h | h | h | h) | h | h⟩ <;> exact absurd h (by decide)
  refine range_ownB strK (X := XC g) (zs := cutB s) (gf := 111) (lb := #[.pointer (some ⟨g + 4 + 1, 0, none⟩), .pointer (some ⟨g + 4, 0, none⟩), .pointer (some ⟨g + 4 + 2, 0, none⟩)]) (b0 := g + 4) (tb := 9) rfl (enters_of Tryz.func111 (by kernel_rfl) rfl) (by omega)
    (split_iter (XC g) (g + 4) s w5 hs5 (by have := HSL.out; omega) hX0 hX1 hX2) (RdI w g) (fun _ W => RdX w g s W) (rdI_own w g hg (by omega)) (rdX_own w g s hg (by omega)) (rdI_box w g (g + 4) hg (by omega)) h0 (fun _ => rfl)
    (fun x => { tmps := #[.string s, undef, .pointer (some ⟨g, 0, none⟩), .pointer (some ⟨g + 1, 0, none⟩), .pointer (some ⟨g + 2, 0, none⟩), .pointer (some ⟨g + 3, 0, none⟩), .string x, undef, undef, undef, .string s, .int .i64 (sz : Nat), .bool false, undef, .string s, .func (.func 111) #[] #[.pointer (some ⟨g + 4 + 1, 0, none⟩), .pointer (some ⟨g + 4, 0, none⟩), .pointer (some ⟨g + 4 + 2, 0, none⟩)], .string x, undef, undef, undef, undef, undef, undef, undef, undef, undef, undef, undef, undef, undef, undef, undef, undef, undef, undef, undef, undef, undef, undef, undef, undef, undef, undef, undef, undef], defers := [] }) ?assign ?body ?done ?stop
  case assign =>
    intro l m x V K hK
    simp only [strK]
    gi_wp2
    exact hK
  case body =>
    rintro l1 m1 pre x V hl1 hr1 hI hpre
    obtain ⟨hgr, hr0, hr1', ⟨iv, hp, ho⟩, m, v0, v1, vs, ps, hm, hrs⟩ := hI
    obtain ⟨A6, k6, c6, rfl⟩ := own_form ho
    obtain rfl := own_len ho
    have hlen : pre.length + 1 ≤ 201 := by
      have h1 := hpre.length_le
      have h2 := cutB_len s
      have := HSL.out
      simp only [List.length_append, List.length_cons, List.length_nil] at h1
      omega
    have htd := runB_told pre 0 _ _ told7_nil hm
    rw [Nat.zero_add] at htd
    have hsV := hgr.size
    obtain ⟨⟨k3, c3, x3⟩, h3⟩ : ∃ q, ri3 x = q := ⟨_, rfl⟩
    have hrv := riV_eq x
    rw [h3] at hrv
    have HRI := Lib.hid (read_any x V)
    have HT := Lib.hid (fun V2 (hg2 : V.grownBy V2 none) => take_any g (g + 3) pre.length x m v0 v1 vs ps V2 (hrs.grown hg2) htd (by omega) (by have := hg2.size; omega))
    rw [hrv] at HRI HT
    have HP := Lib.hid hp
    have HR0 := Lib.hid hr0
    have HR1 := Lib.hid hr1'
    have HO := Lib.hid ho
    have HM := Lib.hid hm
    have HGR := Lib.hid hgr
    have HPRE := Lib.hid hpre
    have H3 := Lib.hid h3
    clear hgr hr0 hr1' hp ho hm hrs hpre h3 hrv
    cases hst : stepB x m with
    | none =>
      have HST := Lib.hid hst
      rw [hst] at HT
      clear hst
      gi_wp2_with (first
        | (refine ⟨trivial, fun h => (by cases h), ?_⟩; refine (CallsIn.inRound l1 (callsIn_wide.2 HRI.out)).mono ?_; clear HRI; rintro e V1 ⟨rfl, hg1⟩; have hg2 := hg1.trans (World.grownBy_alloc V1 (.cells #[.int .i64 k3, .int .u8 c3, .int .u8 x3] 66) none); have HTC := Lib.hid (HT.out _ hg2); have HG2 := Lib.hid hg2; have hb3 := c3_new V1 (.int .i64 k3) (.int .u8 c3) (.int .u8 x3) 66; have t0 := hb3.c0; have t1 := hb3.c1; have t2 := hb3.c2; have HB3 := Lib.hid hb3; clear hg1 hg2 HT hb3)
        | (refine ⟨trivial, fun h => (by cases h), ?_⟩; refine (CallsIn.inRound l1 (callsIn_wide.2 HTC.out)).mono ?_; clear HTC; rintro e V3 ⟨hc3, rfl⟩
           have hpr : Pr V3 g 59 (.slice none 0 0) .nilIface := chgX_cells hc3 ((HG2.out.block _ (blk_lt HR0.out) (by simp)).trans HR0.out) not_xt_prog
           have hbl : V3.heap[g + 1]? = some (.cells #[.bool false] 4 (0, 0)) := chgX_cells hc3 ((HG2.out.block _ (blk_lt HR1.out) (by simp)).trans HR1.out) not_xt_bool
           have p0 := hpr.c0; have p1 := hpr.c1; have p2 := hpr.f 0; have p3 := hpr.f 1
           have p4 : V3.cell? ⟨g + 1, 0, none⟩ = some (.bool false) := cell_of_row V3 (g + 1) 0 _ _ (0, 0) hbl
           have p5 : V3.frozen? ⟨g + 1, 0, none⟩ = false := by simp [World.frozen?, hbl]
           have HC3 := Lib.hid hc3; have HPR := Lib.hid hpr; have HBL := Lib.hid hbl
           clear hc3 hpr hbl))
      have hno := runB_snoc_none HM.out HST.out _ HPRE.out
      have hcf : Chg (fun k => k = g ∨ k = g + 1) V3 (((V3.setCell ⟨g, 0, none⟩ (.slice none 0 0)).setCell ⟨g, 1, none⟩ .nilIface).setCell ⟨g + 1, 0, none⟩ (.bool false)) :=
        ((Chg.row (wr := fun k => k = g ∨ k = g + 1) (gr_set V3 g 0 _) (fun k hk => .inl (by simpa using hk.symm))).trans (Chg.row (wr := fun k => k = g ∨ k = g + 1) (gr_set _ g 1 _) (fun k hk => .inl (by simpa using hk.symm))) (fun _ _ e => e) (fun _ _ e => e)).trans
          (Chg.row (wr := fun k => k = g ∨ k = g + 1) (gr_set _ (g + 1) 0 _) (fun k hk => .inr (by simpa using hk.symm))) (fun _ _ e => e) (fun _ _ e => e)
      have hk3 : KeepsK (XC g) V V3 := (KeepsK.grown HG2.out).trans (chgX_keeps HC3.out)
      have hkf : KeepsK (fun _ _ => True) V3 (((V3.setCell ⟨g, 0, none⟩ (.slice none 0 0)).setCell ⟨g, 1, none⟩ .nilIface).setCell ⟨g + 1, 0, none⟩ (.bool false)) :=
        KeepsK.ofChg hcf (fun k e => by rcases e with rfl | rfl; exact ⟨_, _, _, HPR.out, trivial⟩; exact ⟨_, _, _, HBL.out, trivial⟩)
      refine ⟨⟨Nat.le_trans hk3.size hkf.size, fun k o hB hk ho => (hkf.from w5.heap.size).same k o hB ((hk3.from w5.heap.size).same k o hB hk ho) ho⟩, ?_, ?_, ?_, hno⟩
      · exact gr_ownF (gr_ownF (gr_ownF (gr_chgX (HGR.out.trans HG2.out) hg HC3.out) (gr_set V3 g 0 _) (fun k e => by cases e; omega)) (gr_set _ g 1 _) (fun k e => by cases e; omega)) (gr_set _ (g + 1) 0 _) (fun k e => by cases e; omega)
      · exact (Below.heap_setCell _ _ _ _ (by simp)).trans ((HPR.out.set0 _).set1 _)
      · have h1 : (((V3.setCell ⟨g, 0, none⟩ (.slice none 0 0)).setCell ⟨g, 1, none⟩ .nilIface)).heap[g + 1]? = some (.cells #[.bool false] 4 (0, 0)) := (Below.heap_setCell _ _ _ _ (by simp)).trans ((Below.heap_setCell _ _ _ _ (by simp)).trans HBL.out)
        simp [World.setCell, Array.getElem?_modify] at h1 ⊢
        simp [h1]
    | some m' =>
      have HST := Lib.hid hst
      rw [hst] at HT
      clear hst
      have hbm := told_low (htd.step HST.out)
      gi_wp2_with (first
        | (refine ⟨trivial, fun h => (by cases h), ?_⟩; refine (CallsIn.inRound l1 (callsIn_wide.2 HRI.out)).mono ?_; clear HRI; rintro e V1 ⟨rfl, hg1⟩; have hg2 := hg1.trans (World.grownBy_alloc V1 (.cells #[.int .i64 k3, .int .u8 c3, .int .u8 x3] 66) none); have HTC := Lib.hid (HT.out _ hg2); have HG2 := Lib.hid hg2; have hb3 := c3_new V1 (.int .i64 k3) (.int .u8 c3) (.int .u8 x3) 66; have t0 := hb3.c0; have t1 := hb3.c1; have t2 := hb3.c2; have HB3 := Lib.hid hb3; clear hg1 hg2 HT hb3)
        | (refine ⟨trivial, fun h => (by cases h), ?_⟩; refine (CallsIn.inRound l1 (callsIn_wide.2 HTC.out)).mono ?_; clear HTC; rintro e V3 ⟨hc3, rfl, w0, w1', vs', ps', hrs3⟩
           have hpr : Pr V3 (g + 2) 59 (.slice A6 pre.length c6) .nilIface := chgX_cells hc3 ((HG2.out.block _ (blk_lt HP.out) (by simp)).trans HP.out) not_xt_prog
           have hb3 : C3 V3 V1.heap.size (.int .i64 k3) (.int .u8 c3) (.int .u8 x3) 66 := chgX_cells hc3 HB3.out not_xt_ins
           have p0 := hpr.c0; have p2 := hpr.f 0
           have q0 := hb3.c0; have q1 := hb3.c1; have q2 := hb3.c2
           have hrow : V3.ownsRow g 66 3 (.slice A6 pre.length c6) pre.length (flatI pre) := own_keep (own_keep HO.out (fun k hk => HG2.out.block k (HO.out.lt k hk).2 (by simp))) (fun k hk => by
             have hl := HO.out.lt k hk
             obtain ⟨cs, hcs⟩ := own_heap HO.out hk
             have e2 := (HG2.out.block k hl.2 (by simp)).trans hcs
             exact (chgX_cells hc3 e2 not_xt_ins).trans e2.symm)
           have HROW := Lib.hid hrow
           have hrow4 := hrow.alloc (.cells #[.int .i64 k3, .int .u8 c3, .int .u8 x3] 66)
           have HNL := Lib.hid (fun (j : Nat) (u : Value) (hj : ([.int .i64 k3, .int .u8 c3, .int .u8 x3] : List Value)[j]? = some u) => (World.news_of_block (cs := #[.int .i64 k3, .int .u8 c3, .int .u8 x3]) (heap_alloc_new V3 (.cells #[.int .i64 k3, .int .u8 c3, .int .u8 x3] 66)) j u hj : (V3.alloc (.cells #[.int .i64 k3, .int .u8 c3, .int .u8 x3] 66)).cell? ((⟨V3.heap.size, 0, none⟩ : Addr).add j) = some u))
           have hsz3 : g ≤ V3.heap.size := Nat.le_trans (Nat.le_trans (by omega) HG2.out.size) hc3.size
           have HC3 := Lib.hid hc3; have HPR := Lib.hid hpr; have HRS := Lib.hid hrs3
           clear hc3 hpr hb3 hrow hrs3)
        | (gi_at_builtin; refine wpListIn_append_own _ rfl _ _ 57 rfl g 66 i0 (.agg #[.int .i64 0, .int .u8 0, .int .u8 0]) 3 16 Tryz.underlying57 hi0 hz0 hz1 hz2 rfl (by decide) (.slice A6 pre.length c6) pre.length _ rfl hrow4 ⟨V3.heap.size, 0, none⟩ 1 1 [.int .i64 k3, .int .u8 c3, .int .u8 x3] rfl rfl HNL.out (by simp [Value.oneCell']) (by simp only [maxLen]; omega) (by omega) (by simp; omega) ?_
           intro v8 V5 hown8 hgr8 _
           obtain ⟨A8, k8, c8, rfl⟩ := own_form hown8
           have hnb : ∀ (k : Nat) (cs : Array Value) (T : TypeId) (fr : Nat × Nat), T ≠ 66 → V3.heap[k]? = some (.cells cs T fr) → V5.heap[k]? = some (.cells cs T fr) := fun k cs T fr hT hk => by
             refine (hgr8.block k (by have := blk_lt hk; simp; omega) (fun e => own_not HROW.out hk hT e.symm)).trans ((Below.heap_alloc _ _ _ (blk_lt hk)).trans hk)
           have hp5 : Pr V5 (g + 2) 59 (.slice A6 pre.length c6) .nilIface := hnb _ _ _ _ (by decide) HPR.out
           have r0 := hp5.c0; have r2 := hp5.f 0
           have HNB := Lib.hid hnb; have HP5 := Lib.hid hp5; have HO8 := Lib.hid hown8; have HGR8 := Lib.hid hgr8; have HROW4 := Lib.hid hrow4
           clear hnb hp5 hown8 hgr8 hrow4))
      have hk3 : KeepsK (XC g) V V3 := (KeepsK.grown HG2.out).trans (chgX_keeps HC3.out)
      have hk5 : KeepsK (XC g) (V3.alloc (.cells #[.int .i64 k3, .int .u8 c3, .int .u8 x3] 66)) V5 :=
        KeepsK.ofChg (Chg.row (wr := fun k => (Value.slice A6 pre.length c6).ownBlock = some k) HGR8.out (fun k e => e)) (fun k e => by
          obtain ⟨cs, hcs⟩ := own_heap HROW4.out e
          exact ⟨cs, _, _, hcs, (HROW4.out.lt k e).1, .inr (.inl rfl)⟩)
      have hk6 : KeepsK (XC g) V5 (V5.setCell ⟨g + 2, 0, none⟩ (.slice A8 k8 c8)) := KeepsK.grownX (gr_set V5 (g + 2) 0 _) HP5.out ⟨by omega, .inr (.inr rfl)⟩
      have h36 : ∀ (k : Nat) (cs : Array Value) (T : TypeId) (fr : Nat × Nat), T ≠ 66 → k ≠ g + 2 → V3.heap[k]? = some (.cells cs T fr) → (V5.setCell ⟨g + 2, 0, none⟩ (.slice A8 k8 c8)).heap[k]? = some (.cells cs T fr) := fun k cs T fr hT hk h => (Below.heap_setCell _ _ _ _ hk).trans (HNB.out k cs T fr hT h)
      refine ⟨((hk3.trans (KeepsK.alloc _ _)).trans hk5).trans hk6, ?_, ?_, ?_, ⟨.slice A8 k8 c8, HP5.out.set0 _, ?_⟩, m', w0, w1', vs', ps', (runB_snoc HM.out).trans HST.out, HRS.out.keepT (fun k cs T fr hT h => h36 k cs T fr ?_ ?_ h)⟩
      · exact gr_ownF (gr_ownF ((gr_chgX (HGR.out.trans HG2.out) hg HC3.out).trans (World.grownBy_alloc V3 _ none)) HGR8.out (fun k e => by have := (HROW4.out.lt k e).1; omega)) (gr_set V5 (g + 2) 0 _) (fun k e => by cases e; omega)
      · exact h36 _ _ _ _ (by decide) (by omega) (chgX_cells HC3.out ((HG2.out.block _ (blk_lt HR0.out) (by simp)).trans HR0.out) not_xt_prog)
      · exact h36 _ _ _ _ (by decide) (by omega) (chgX_cells HC3.out ((HG2.out.block _ (blk_lt HR1.out) (by simp)).trans HR1.out) not_xt_bool)
      · rw [flatI_snoc, List.length_append, show cellsI x = [.int .i64 k3, .int .u8 c3, .int .u8 x3] by unfold cellsI; rw [H3.out]]
        exact own_keep HO8.out (fun k hk => Below.heap_setCell _ _ _ _ (fun e => own_not HO8.out HP5.out (by decide) (by rw [hk]; simpa using e)))
      · rintro rfl
        rcases hT with (e | e | e) | e | e | e | e <;> exact absurd e (by decide)
      · rintro rfl
        have := HPR.out
        unfold Pr at this
        rw [h] at this
        cases this
        rcases hT with (e | e | e) | e | e | e | e <;> exact absurd e (by decide)
  case done =>
    rintro D V hD hI hK
    obtain ⟨hgr, hr0, hr1', ⟨iv, hp, ho⟩, m, v0, v1, vs, ps, hm, hrs⟩ := hI
    obtain ⟨A6, k6, c6, rfl⟩ := own_form ho
    obtain rfl := own_len ho
    have hlen : (cutB s).length ≤ 201 := by have := cutB_len s; have := HSL.out; omega
    have htd := runB_told _ 0 _ _ told7_nil hm
    rw [Nat.zero_add] at htd
    have htl := told_low htd
    have hw := whole_any g (g + 3) m v0 v1 vs ps V hrs (by omega) (by omega)
    have HP := Lib.hid hp
    have HR0 := Lib.hid hr0
    have HR1 := Lib.hid hr1'
    have HO := Lib.hid ho
    have HM := Lib.hid hm
    have HGR := Lib.hid hgr
    have HK := Lib.hid hK
    obtain ⟨nc, hnc⟩ : ∃ n, (cutB s).length = n := ⟨_, rfl⟩
    have HNC := Lib.hid hnc
    rw [hnc] at HP HO
    have hcode : codeT s = match whole m with | none => none | some t => if t.txt.length ≤ 80 then some t else none := by
      unfold codeT
      rw [if_neg (by have := HSL.out; omega), hm]
      rfl
    have HCODE := Lib.hid hcode
    clear hp hr0 hr1' ho hm hgr hrs htd hK hcode hnc htl
    cases hwh : whole m with
    | none =>
      rw [hwh] at hw HCODE
      have HW : Hid (Calls Tryz.prog 64 #[.pointer (some ⟨g + 3, 0, none⟩)] V fun e V1 => Chg (WX g V) V V1 ∧ ∃ x : Value, (x = .nilIface ∨ ∃ ty pv, x = .iface ty pv) ∧ e = .returned (.tuple #[x, .bool false])) := Lib.hid (hw.mono (fun e V1 h => ⟨h.1, h.2.choose, h.2.choose_spec.1, h.2.choose_spec.2.1⟩))
      clear hw
      gi_wp2_with (refine ⟨trivial, ?_⟩; gi_at_call 64; refine (callsIn_wide.2 HW.out).mono ?_; clear HW; rintro e V1 ⟨hc, x, hx, rfl⟩
                   have hpr : Pr V1 g 59 (.slice none 0 0) .nilIface := chgX_cells hc HR0.out not_xt_prog
                   have hbl : V1.heap[g + 1]? = some (.cells #[.bool false] 4 (0, 0)) := chgX_cells hc HR1.out not_xt_bool
                   have p0 := hpr.c0; have p1 := hpr.c1; have p2 := hpr.f 0; have p3 := hpr.f 1
                   have p4 : V1.cell? ⟨g + 1, 0, none⟩ = some (.bool false) := cell_of_row V1 (g + 1) 0 _ _ (0, 0) hbl
                   have p5 : V1.frozen? ⟨g + 1, 0, none⟩ = false := by simp [World.frozen?, hbl]
                   have HC := Lib.hid hc; have HPR := Lib.hid hpr; have HBL := Lib.hid hbl
                   clear hc hpr hbl
                   rcases hx with rfl | ⟨ty, pv, rfl⟩)
      all_goals
        refine ⟨trivial, ?_⟩
        gi_wp2
        obtain ⟨V2, hV2⟩ : ∃ z, ((V1.setCell ⟨g, 0, none⟩ (.slice none 0 0)).setCell ⟨g, 1, none⟩ .nilIface).setCell ⟨g + 1, 0, none⟩ (.bool false) = z := ⟨_, rfl⟩
        have hK2 : V2.heap[D]? = some (.deferred (some [])) := by
          rw [← hV2]
          refine (Below.heap_setCell _ _ _ _ (by simp; omega)).trans ((Below.heap_setCell _ _ _ _ (by simp; omega)).trans ((Below.heap_setCell _ _ _ _ (by simp; omega)).trans ?_))
          refine (HC.out.same _ (Array.getElem?_eq_some_iff.1 HK.out).1 (fun ⟨_, cs, T, fr, h2, _⟩ => ?_)).trans HK.out
          rw [HK.out] at h2; cases h2
        have hp2 : V2.heap[g]? = some (.cells #[.slice none 0 0, .nilIface] 59 (0, 0)) := by rw [← hV2]; exact (Below.heap_setCell _ _ _ _ (by simp)).trans ((HPR.out.set0 _).set1 _)
        have hb2 : V2.heap[g + 1]? = some (.cells #[.bool false] 4 (0, 0)) := by
          have h1 : (((V1.setCell ⟨g, 0, none⟩ (.slice none 0 0)).setCell ⟨g, 1, none⟩ .nilIface)).heap[g + 1]? = some (.cells #[.bool false] 4 (0, 0)) := (Below.heap_setCell _ _ _ _ (by simp)).trans ((Below.heap_setCell _ _ _ _ (by simp)).trans HBL.out)
          rw [← hV2]
          simp [World.setCell, Array.getElem?_modify] at h1 ⊢
          simp [h1]
        have hgf : w.grownBy V2 none := by
          rw [← hV2]
          exact gr_ownF (gr_ownF (gr_ownF (gr_chgX HGR.out hg HC.out) (gr_set V1 g 0 _) (fun k e => by cases e; omega)) (gr_set _ g 1 _) (fun k e => by cases e; omega)) (gr_set _ (g + 1) 0 _) (fun k e => by cases e; omega)
        rw [hV2]
        clear hV2 p0 p1 p2 p3 p4 p5
        obtain ⟨m0, m1, m2⟩ := res_boxes hp2 hb2 (show g + 2 ≤ D by omega) (.deferred none)
        refine ⟨by simp, .inl ⟨_, _, rfl, run_takeDeferred hK2, ?_⟩⟩
        exact ⟨.tuple #[.agg #[.slice none 0 0, .nilIface], .bool false], by simp [results, Tryz.results37, go_sem, m0, m1, m2], readP_none HCODE.out (gr_ownF hgf (grownBy_putObj' V2 D _) (fun k e => by cases e; omega)) rfl⟩
    | some t =>
      rw [hwh] at hw HCODE
      obtain ⟨hto, htl⟩ := whole_told HSL.out HM.out hwh
      have HW : Hid (Calls Tryz.prog 64 #[.pointer (some ⟨g + 3, 0, none⟩)] V fun e V1 => Chg (WX g V) V V1 ∧ ∃ ty pv, PT V1 (fun _ => True) t (.iface ty pv) ∧ e = .returned (.tuple #[.iface ty pv, .bool true])) := Lib.hid (hw.mono (fun e V1 h => by
        obtain ⟨h1, x, _, h3, h4⟩ := h
        have h5 := h4 t rfl
        obtain ⟨ty, pv, rfl⟩ := h5.iface
        exact ⟨h1, ty, pv, h5, h3⟩))
      have HTO := Lib.hid hto
      clear hw hto
      obtain ⟨tl, htl2⟩ : ∃ n, t.txt.length = n := ⟨_, rfl⟩
      have HTL := Lib.hid htl2
      have hbs : (bytesOf t.txt).size = tl := by rw [← htl2]; rfl
      have hcd : codeT s = if tl ≤ 80 then some t else none := by rw [← htl2]; exact HCODE.out
      have HCD := Lib.hid hcd
      rw [htl2] at htl
      clear htl2 hcd HCODE
      by_cases h80 : tl ≤ 80
      · have hd80 : ¬ ((80 : Int) < ((tl : Nat) : Int)) := by omega
        gi_wp2_with (first
          | (refine ⟨trivial, ?_⟩; gi_at_call 64; refine (callsIn_wide.2 HW.out).mono ?_; clear HW; rintro e V1 ⟨hc, ty, pv, hpt, rfl⟩
             have HTX := Lib.hid (textof_any t _ ty pv V1 HTO.out hpt (by have := HTL.out; omega))
             have HC := Lib.hid hc; have HPT := Lib.hid hpt
             clear hc hpt)
          | (refine ⟨trivial, ?_⟩; gi_at_call 38; refine (callsIn_wide.2 HTX.out).mono ?_; clear HTX; rintro e V2 ⟨rfl, hg2⟩
             have hpr : Pr V2 g 59 (.slice none 0 0) .nilIface := Pr.grown (chgX_cells HC.out HR0.out not_xt_prog) hg2 (by simp)
             have hpp : Pr V2 (g + 2) 59 (.slice A6 nc c6) .nilIface := Pr.grown (chgX_cells HC.out HP.out not_xt_prog) hg2 (by simp)
             have hb1 : V1.heap[g + 1]? = some (.cells #[.bool false] 4 (0, 0)) := chgX_cells HC.out HR1.out not_xt_bool
             have hbl : V2.heap[g + 1]? = some (.cells #[.bool false] 4 (0, 0)) := (hg2.block _ (blk_lt hb1) (by simp)).trans hb1
             have p0 := hpr.c0; have p1 := hpr.c1; have p2 := hpr.f 0; have p3 := hpr.f 1
             have p4 : V2.cell? ⟨g + 1, 0, none⟩ = some (.bool false) := cell_of_row V2 (g + 1) 0 _ _ (0, 0) hbl
             have p5 : V2.frozen? ⟨g + 1, 0, none⟩ = false := by simp [World.frozen?, hbl]
             have p6 := hpp.c0; have p7 := hpp.c1; have p8 := hpp.f 1
             have hdk : V2.heap[D]? = some (.deferred (some [])) := by
               have h1 : V1.heap[D]? = some (.deferred (some [])) := (HC.out.same _ (Array.getElem?_eq_some_iff.1 HK.out).1 (fun ⟨_, cs, T, fr, h2, _⟩ => by rw [HK.out] at h2; cases h2)).trans HK.out
               exact (hg2.block _ (Array.getElem?_eq_some_iff.1 h1).1 (by simp)).trans h1
             have hrow : V2.ownsRow g 66 3 (.slice A6 nc c6) nc (flatI (cutB s)) := own_keep HO.out (fun k hk => by
               obtain ⟨cs, hcs⟩ := own_heap HO.out hk
               have h1 := chgX_cells HC.out hcs not_xt_ins
               exact ((hg2.block _ (blk_lt h1) (by simp)).trans h1).trans hcs.symm)
             have HPR := Lib.hid hpr; have HPP := Lib.hid hpp; have HBL := Lib.hid hbl; have HDK := Lib.hid hdk; have HRW := Lib.hid hrow; have HP2 := Lib.hid (HPT.out.grown hg2); have HG2 := Lib.hid ((gr_chgX HGR.out hg HC.out).trans hg2)
             clear hpr hpp hb1 hbl hdk hrow hg2))
        have hn : ∀ {k : Nat} {cs : Array Value} {T : TypeId} {fr : Nat × Nat}, T ≠ 59 → T ≠ 4 → V2.heap[k]? = some (.cells cs T fr) → (putR (V2.setCell ⟨g + 2, 1, none⟩ (.iface ty pv)) g (.slice A6 nc c6) (.iface ty pv) (.bool true)).heap[k]? = some (.cells cs T fr) := fun {k cs T fr} h1 h2 h => by
          refine (putR_same ?_ ?_).trans ((Below.heap_setCell _ _ _ _ ?_).trans h)
          · rintro rfl; have := HPR.out; unfold Pr at this; rw [h] at this; cases this; exact h1 rfl
          · rintro rfl; have := HBL.out; rw [h] at this; cases this; exact h2 rfl
          · rintro rfl; have := HPP.out; unfold Pr at this; rw [h] at this; cases this; exact h1 rfl
        have hpr3 : Pr (V2.setCell ⟨g + 2, 1, none⟩ (.iface ty pv)) g 59 (.slice none 0 0) .nilIface := (Below.heap_setCell _ _ _ _ (by simp)).trans HPR.out
        have hbl3 : (V2.setCell ⟨g + 2, 1, none⟩ (.iface ty pv)).heap[g + 1]? = some (.cells #[.bool false] 4 (0, 0)) := (Below.heap_setCell _ _ _ _ (by simp)).trans HBL.out
        obtain ⟨e0, e1⟩ := putR_res (a := .slice A6 nc c6) (b := .iface ty pv) (r := .bool true) hpr3 hbl3
        have hgf : w.grownBy (putR (V2.setCell ⟨g + 2, 1, none⟩ (.iface ty pv)) g (.slice A6 nc c6) (.iface ty pv) (.bool true)) none := putR_gr (gr_ownF HG2.out (gr_set V2 (g + 2) 1 _) (fun k e => by cases e; omega)) hg
        have hdk : (putR (V2.setCell ⟨g + 2, 1, none⟩ (.iface ty pv)) g (.slice A6 nc c6) (.iface ty pv) (.bool true)).heap[D]? = some (.deferred (some [])) := (putR_same (by omega) (by omega)).trans ((Below.heap_setCell _ _ _ _ (by simp; omega)).trans HDK.out)
        have hrow := own_keepT HRW.out (fun k cs fr h => hn (by decide) (by decide) h)
        have hpt := PT.keepT (S' := fun _ => True) (fun b' xs T fr _ hT h => hn (by rcases hT with e | e | e <;> rw [e] <;> decide) (by rcases hT with e | e | e <;> rw [e] <;> decide) h) (fun _ _ _ => trivial) _ _ HP2.out
        clear hn hpr3 hbl3 p0 p1 p2 p3 p4 p5 p6 p7 p8
        change bodyPostM _ _ _ _ _ _ _ (putR (V2.setCell ⟨g + 2, 1, none⟩ (.iface ty pv)) g (.slice A6 nc c6) (.iface ty pv) (.bool true))
        generalize putR (V2.setCell ⟨g + 2, 1, none⟩ (.iface ty pv)) g (.slice A6 nc c6) (.iface ty pv) (.bool true) = V3 at e0 e1 hgf hdk hrow hpt ⊢
        obtain ⟨m0, m1, m2⟩ := res_boxes e0 e1 (show g + 2 ≤ D by omega) (.deferred none)
        refine ⟨by simp, .inl ⟨_, _, rfl, run_takeDeferred hdk, ?_⟩⟩
        refine ⟨.tuple #[.agg #[.slice A6 nc c6, .iface ty pv], .bool true], by simp [results, Tryz.results37, go_sem, m0, m1, m2], readP_some (HCD.out.trans (if_pos h80)) (gr_ownF hgf (grownBy_putObj' V3 D _) (fun k e => by cases e; omega)) rfl ?_ ?_⟩
        · rw [HNC.out, hg]
          exact own_keepT hrow (fun k cs fr h => putObj_cells hdk h)
        · exact PT.keepT (fun b' xs T fr _ _ h => putObj_cells hdk h) (fun _ _ _ => trivial) _ _ hpt
      · have hd80 : ((80 : Int) < ((tl : Nat) : Int)) := by omega
        gi_wp2_with (first
          | (refine ⟨trivial, ?_⟩; gi_at_call 64; refine (callsIn_wide.2 HW.out).mono ?_; clear HW; rintro e V1 ⟨hc, ty, pv, hpt, rfl⟩
             have HTX := Lib.hid (textof_any t _ ty pv V1 HTO.out hpt (by have := HTL.out; omega))
             have HC := Lib.hid hc; have HPT := Lib.hid hpt
             clear hc hpt)
          | (refine ⟨trivial, ?_⟩; gi_at_call 38; refine (callsIn_wide.2 HTX.out).mono ?_; clear HTX; rintro e V2 ⟨rfl, hg2⟩
             have hpr : Pr V2 g 59 (.slice none 0 0) .nilIface := Pr.grown (chgX_cells HC.out HR0.out not_xt_prog) hg2 (by simp)
             have hpp : Pr V2 (g + 2) 59 (.slice A6 nc c6) .nilIface := Pr.grown (chgX_cells HC.out HP.out not_xt_prog) hg2 (by simp)
             have hb1 : V1.heap[g + 1]? = some (.cells #[.bool false] 4 (0, 0)) := chgX_cells HC.out HR1.out not_xt_bool
             have hbl : V2.heap[g + 1]? = some (.cells #[.bool false] 4 (0, 0)) := (hg2.block _ (blk_lt hb1) (by simp)).trans hb1
             have p0 := hpr.c0; have p1 := hpr.c1; have p2 := hpr.f 0; have p3 := hpr.f 1
             have p4 : V2.cell? ⟨g + 1, 0, none⟩ = some (.bool false) := cell_of_row V2 (g + 1) 0 _ _ (0, 0) hbl
             have p5 : V2.frozen? ⟨g + 1, 0, none⟩ = false := by simp [World.frozen?, hbl]
             have p6 := hpp.c0; have p7 := hpp.c1; have p8 := hpp.f 1
             have hdk : V2.heap[D]? = some (.deferred (some [])) := by
               have h1 : V1.heap[D]? = some (.deferred (some [])) := (HC.out.same _ (Array.getElem?_eq_some_iff.1 HK.out).1 (fun ⟨_, cs, T, fr, h2, _⟩ => by rw [HK.out] at h2; cases h2)).trans HK.out
               exact (hg2.block _ (Array.getElem?_eq_some_iff.1 h1).1 (by simp)).trans h1
             have hrow : V2.ownsRow g 66 3 (.slice A6 nc c6) nc (flatI (cutB s)) := own_keep HO.out (fun k hk => by
               obtain ⟨cs, hcs⟩ := own_heap HO.out hk
               have h1 := chgX_cells HC.out hcs not_xt_ins
               exact ((hg2.block _ (blk_lt h1) (by simp)).trans h1).trans hcs.symm)
             have HPR := Lib.hid hpr; have HPP := Lib.hid hpp; have HBL := Lib.hid hbl; have HDK := Lib.hid hdk; have HRW := Lib.hid hrow; have HP2 := Lib.hid (HPT.out.grown hg2); have HG2 := Lib.hid ((gr_chgX HGR.out hg HC.out).trans hg2)
             clear hpr hpp hb1 hbl hdk hrow hg2))
        obtain ⟨e0, e1⟩ := putR_res (a := .slice none 0 0) (b := .nilIface) (r := .bool false) HPR.out HBL.out
        have hgf : w.grownBy (putR V2 g (.slice none 0 0) .nilIface (.bool false)) none := putR_gr HG2.out hg
        have hdk : (putR V2 g (.slice none 0 0) .nilIface (.bool false)).heap[D]? = some (.deferred (some [])) := (putR_same (by omega) (by omega)).trans HDK.out
        clear p0 p1 p2 p3 p4 p5 p6 p7 p8
        change bodyPostM _ _ _ _ _ _ _ (putR V2 g (.slice none 0 0) .nilIface (.bool false))
        generalize putR V2 g (.slice none 0 0) .nilIface (.bool false) = V3 at e0 e1 hgf hdk ⊢
        obtain ⟨m0, m1, m2⟩ := res_boxes e0 e1 (show g + 2 ≤ D by omega) (.deferred none)
        refine ⟨by simp, .inl ⟨_, _, rfl, run_takeDeferred hdk, ?_⟩⟩
        exact ⟨.tuple #[.agg #[.slice none 0 0, .nilIface], .bool false], by simp [results, Tryz.results37, go_sem, m0, m1, m2], readP_none (HCD.out.trans (if_neg h80)) (gr_ownF hgf (grownBy_putObj' V3 D _) (fun k e => by cases e; omega)) rfl⟩
  case stop =>
    rintro D pre V hD _ hI hK
    gi_wp2
    obtain ⟨m0, m1, m2⟩ := res_boxes hI.r0 hI.r1 (show g + 2 ≤ D by omega) (.deferred none)
    have hgf := hI.gr
    have hcode : codeT s = none := by
      unfold codeT
      rw [if_neg (by have := HSL.out; omega), hI.no]
    refine ⟨by simp, .inl ⟨_, _, rfl, run_takeDeferred hK, ?_⟩⟩
    exact ⟨.tuple #[.agg #[.slice none 0 0, .nilIface], .bool false], by simp [results, Tryz.results37, go_sem, m0, m1, m2], readP_none hcode (gr_ownF hgf (grownBy_putObj' V D _) (fun k e => by cases e; omega)) rfl⟩

theorem readc_any (s : ByteArray) (w : World) : Calls Tryz.prog 37 #[.string s] w (ReadP s w) := by
  rcases Nat.lt_or_ge 200 s.size with h | h
  · exact readc_long s w h
  · exact readc_in s w h
end

section
open Go.RowKit

def tvalidA (s : ByteArray) : Bool := (readT s).isSome

theorem tvalid_spec (s : ByteArray) (hs : s.size ≤ 1048576) (w : World) :
    Calls Tryz.prog 70 #[.string s] w fun e w' => e = .returned (.bool (tvalidA s)) ∧ w.grownBy w' none := by
  have H := Lib.hid (sterm_any s hs w)
  obtain ⟨b, hb⟩ : ∃ b, tvalidA s = b := ⟨_, rfl⟩
  rw [hb]
  have HB := Lib.hid hb
  clear hb
  go_enter Tryz.func70, Tryz.ntmps70
  go_wp2_with fail
  refine H.out.mono ?_
  intro e w1 hp
  unfold STermPost at hp
  have hb := HB.out
  unfold tvalidA at hb
  cases hr : readT s with
  | none =>
    rw [hr] at hp hb
    obtain rfl : b = false := hb.symm
    obtain ⟨rfl, hg⟩ := hp
    have HG := Lib.hid hg
    clear hg hr hb
    go_wp2_with fail
    go_ret
    exact ⟨rfl, HG.out.trans (World.grownBy_alloc _ _ _)⟩
  | some t =>
    rw [hr] at hp hb
    obtain rfl : b = true := hb.symm
    obtain ⟨a, b, A, k, c, rfl, hg, ha⟩ := hp
    have HG := Lib.hid hg
    clear hg ha hr hb
    go_wp2_with fail
    go_ret
    exact ⟨rfl, HG.out.trans (World.grownBy_alloc _ _ _)⟩

end

section
open Go.RowKit

def inV (l : List Int) : List Value := l.map (Value.int .i64)
theorem inV_snoc (l : List Int) (x : Int) : inV (l ++ [x]) = inV l ++ [.int .i64 x] := by simp [inV]

structure BM (w : World) (s : ByteArray) (pv hv lv : Value) (hl ll : List Int) (m : MS) (v0 v1 v2 : Value) (xs : List (Int × Int × Value)) (W : World) : Prop where
  gr : w.grownBy W none
  q : C3 W w.heap.size (.int .u8 0) (.int .u8 0) (.slice none 0 0) 52
  pc : W.ownsRow (w.heap.size + 1) 9 1 pv (cutB s).length (stV (cutB s))
  ho : W.ownsRow (w.heap.size + 1) 3 1 hv hl.length (inV hl)
  lo : W.ownsRow (w.heap.size + 1) 3 1 lv ll.length (inV ll)
  ap : ∀ g, hv.ownBlock = some g → lv.ownBlock ≠ some g
  bs : BS W (w.heap.size + 1) (w.heap.size + 1) m v0 v1 v2 xs
  pv1 : ∀ g, pv.ownBlock = some g → v1.ownBlock ≠ some g
  hv2 : ∀ g, hv.ownBlock = some g → v2.ownBlock ≠ some g
  lv2 : ∀ g, lv.ownBlock = some g → v2.ownBlock ≠ some g

section
variable {w W W' : World} {s : ByteArray} {pv hv lv : Value} {hl ll : List Int} {m : MS} {v0 v1 v2 : Value} {xs : List (Int × Int × Value)}

theorem BM.grown (h : BM w s pv hv lv hl ll m v0 v1 v2 xs W) (hg : W.grownBy W' none) : BM w s pv hv lv hl ll m v0 v1 v2 xs W' :=
  ⟨h.gr.trans hg, h.q.grown hg (by simp), own_keep h.pc (fun k hk => hg.block k (h.pc.lt k hk).2 (by simp)), own_keep h.ho (fun k hk => hg.block k (h.ho.lt k hk).2 (by simp)), own_keep h.lo (fun k hk => hg.block k (h.lo.lt k hk).2 (by simp)), h.ap, h.bs.grown hg, h.pv1, h.hv2, h.lv2⟩

/-- Behind an instruction. -/
theorem BM.did {m' : MS} {u0 u1 u2 : Value} {xs' : List (Int × Int × Value)} (h : BM w s pv hv lv hl ll m v0 v1 v2 xs W) (hc : Chg (BW (w.heap.size + 1) v0 v1 v2) W W') (hb : BS W' (w.heap.size + 1) (w.heap.size + 1) m' u0 u1 u2 xs') (f1 : Fr3 W v1 u1) (f2 : Fr3 W v2 u2) : BM w s pv hv lv hl ll m' u0 u1 u2 xs' W' := by
  have hge : ∀ k, BW (w.heap.size + 1) v0 v1 v2 k → w.heap.size + 1 ≤ k := fun k e => by
    rcases e with e | e | e | e
    · omega
    · exact (h.bs.st.lt k e).1
    · exact (h.bs.lo.lt k e).1
    · exact (h.bs.ba.lt k e).1
  have hint : ∀ {n : Nat} {v : Value} {ys : List Value}, W.ownsRow (w.heap.size + 1) 3 1 v n ys → (∀ g, v.ownBlock = some g → v2.ownBlock ≠ some g) → ∀ g, v.ownBlock = some g → ¬ BW (w.heap.size + 1) v0 v1 v2 g := fun ho hn g hg e => by
    obtain ⟨cs, hcs⟩ := own_heap ho hg
    rcases e with e | e | e | e
    · exact own_not ho h.bs.box (by decide) (e ▸ hg)
    · exact own_not h.bs.st hcs (by decide) e
    · exact own_not h.bs.lo hcs (by decide) e
    · exact hn g hg e
  refine ⟨⟨hc.os.trans h.gr.os, hc.tape.trans h.gr.tape, hc.output.trans h.gr.output, Nat.le_trans h.gr.size hc.size, fun k hk _ => (hc.same k (Nat.lt_of_lt_of_le hk h.gr.size) (fun e => by have := hge k e; omega)).trans (h.gr.block k hk (by simp))⟩, ?_, ?_, ?_, ?_, h.ap, hb, ?_, ?_, ?_⟩
  · exact (hc.same _ h.q.lt (fun e => by have := hge _ e; omega)).trans h.q
  · refine hc.own h.pc (fun g hg e => ?_)
    obtain ⟨cs, hcs⟩ := own_heap h.pc hg
    rcases e with e | e | e | e
    · exact own_not h.pc h.bs.box (by decide) (e ▸ hg)
    · exact own_not h.bs.st hcs (by decide) e
    · exact h.pv1 g hg e
    · exact own_not h.bs.ba hcs (by decide) e
  · exact hc.own h.ho (hint h.ho h.hv2)
  · exact hc.own h.lo (hint h.lo h.lv2)
  · exact fun g hg e => (f1 g e).elim (h.pv1 g hg) (fun e => by have := (h.pc.lt g hg).2; omega)
  · exact fun g hg e => (f2 g e).elim (h.hv2 g hg) (fun e => by have := (h.ho.lt g hg).2; omega)
  · exact fun g hg e => (f2 g e).elim (h.lv2 g hg) (fun e => by have := (h.lo.lt g hg).2; omega)

theorem BS.keepI {n0 b : Nat} (h : BS W n0 b m v0 v1 v2 xs) (hk : ∀ (k : Nat) (cs : Array Value) (T : TypeId) (fr : Nat × Nat), (T ≠ 3 ∨ v2.ownBlock = some k) → W.heap[k]? = some (.cells cs T fr) → W'.heap[k]? = some (.cells cs T fr)) : BS W' n0 b m v0 v1 v2 xs := by
  have key : ∀ {n size : Nat} {e : TypeId} {v : Value} {ys : List Value}, W.ownsRow n0 e size v n ys → (e ≠ 3 ∨ v2 = v) → W'.ownsRow n0 e size v n ys := fun ho he =>
    own_keep ho (fun g hg => by
      obtain ⟨cs, hcs⟩ := own_heap ho hg
      rw [hcs]
      exact hk g cs _ _ (he.imp id (fun hv => by rw [hv]; exact hg)) hcs)
  refine ⟨h.base, hk _ _ _ _ (.inl (by decide)) h.box, key h.st (.inl (by decide)), ?_, key h.lo (.inl (by decide)), key h.ba (.inr rfl)⟩
  exact All2.mono (fun t N ht => SN.keepT (fun k cs fr _ hh => hk k cs _ fr (.inl (by decide)) hh) (fun _ hs _ => hs) t N ht) _ _ h.sn

theorem keep_int {row : Option Nat} (hg : W.grownBy W' row) (hr : ∀ r, row = some r → (∃ cs fr, W.heap[r]? = some (.cells cs 3 fr)) ∧ v2.ownBlock ≠ some r) : ∀ (k : Nat) (cs : Array Value) (T : TypeId) (fr : Nat × Nat), (T ≠ 3 ∨ v2.ownBlock = some k) → W.heap[k]? = some (.cells cs T fr) → W'.heap[k]? = some (.cells cs T fr) := fun k cs T fr hT hh =>
  (hg.block k (blk_lt hh) (fun e => by
    obtain ⟨⟨cs', fr', h1⟩, h2⟩ := hr k e.symm
    rw [hh] at h1
    cases h1
    exact hT.elim (fun e => e rfl) h2)).trans hh

/-- Behind a level that is told. -/
theorem BM.addL {u : Value} {x : Int} (h : BM w s pv hv lv hl ll m v0 v1 v2 xs W) (hg : W.grownBy W' lv.ownBlock) (ho : W'.ownsRow (w.heap.size + 1) 3 1 u (ll.length + 1) (inV ll ++ [.int .i64 x])) (hb : u.ownBlock = lv.ownBlock ∨ ∃ k, u.ownBlock = some k ∧ W.heap.size ≤ k) : BM w s pv hv u hl (ll ++ [x]) m v0 v1 v2 xs W' := by
  have hrow : ∀ r, lv.ownBlock = some r → (∃ cs fr, W.heap[r]? = some (.cells cs 3 fr)) := fun r hr => by
    obtain ⟨cs, hcs⟩ := own_heap h.lo hr
    exact ⟨cs, _, hcs⟩
  have hk := keep_int hg (fun r hr => ⟨hrow r hr, h.lv2 r hr⟩)
  refine ⟨gr_ownR h.gr hg (fun k hk => by have := (h.lo.lt k hk).1; omega), hk _ _ _ _ (.inl (by decide)) h.q, own_keep h.pc (fun g hg => ?_), own_keep h.ho (fun g hg' => ?_), ?_, ?_, h.bs.keepI hk, h.pv1, h.hv2, ?_⟩
  · obtain ⟨cs, hcs⟩ := own_heap h.pc hg
    rw [hcs]
    exact hk _ _ _ _ (.inl (by decide)) hcs
  · exact hg.block g (h.ho.lt g hg').2 (fun e => h.ap g hg' e.symm)
  · rw [List.length_append, inV_snoc]; exact ho
  · intro g hg' e
    rcases hb with e2 | ⟨k, e2, hk2⟩
    · exact h.ap g hg' (e2 ▸ e)
    · rw [e2] at e; cases e
      have := (h.ho.lt _ hg').2
      omega
  · intro g hg' e
    rcases hb with e2 | ⟨k, e2, hk2⟩
    · exact h.lv2 g (e2 ▸ hg') e
    · rw [e2] at hg'; cases hg'
      have := (h.bs.ba.lt _ e).2
      omega
/-- Behind a height that is told. -/
theorem BM.addH {u : Value} {x : Int} (h : BM w s pv hv lv hl ll m v0 v1 v2 xs W) (hg : W.grownBy W' hv.ownBlock) (ho : W'.ownsRow (w.heap.size + 1) 3 1 u (hl.length + 1) (inV hl ++ [.int .i64 x])) (hb : u.ownBlock = hv.ownBlock ∨ ∃ k, u.ownBlock = some k ∧ W.heap.size ≤ k) : BM w s pv u lv (hl ++ [x]) ll m v0 v1 v2 xs W' := by
  have hrow : ∀ r, hv.ownBlock = some r → (∃ cs fr, W.heap[r]? = some (.cells cs 3 fr)) := fun r hr => by
    obtain ⟨cs, hcs⟩ := own_heap h.ho hr
    exact ⟨cs, _, hcs⟩
  have hk := keep_int hg (fun r hr => ⟨hrow r hr, h.hv2 r hr⟩)
  refine ⟨gr_ownR h.gr hg (fun k hk => by have := (h.ho.lt k hk).1; omega), hk _ _ _ _ (.inl (by decide)) h.q, own_keep h.pc (fun g hg => ?_), ?_, own_keep h.lo (fun g hg' => ?_), ?_, h.bs.keepI hk, h.pv1, ?_, h.lv2⟩
  · obtain ⟨cs, hcs⟩ := own_heap h.pc hg
    rw [hcs]
    exact hk _ _ _ _ (.inl (by decide)) hcs
  · rw [List.length_append, inV_snoc]; exact ho
  · exact hg.block g (h.lo.lt g hg').2 (fun e => h.ap g e.symm hg')
  · intro g hg' e
    rcases hb with e2 | ⟨k, e2, hk2⟩
    · exact h.ap g (e2 ▸ hg') e
    · rw [e2] at hg'; cases hg'
      have := (h.lo.lt _ e).2
      omega
  · intro g hg' e
    rcases hb with e2 | ⟨k, e2, hk2⟩
    · exact h.hv2 g (e2 ▸ hg') e
    · rw [e2] at hg'; cases hg'
      have := (h.bs.ba.lt _ e).2
      omega
end
end

section
open Go.RowKit

def BldP (s : ByteArray) (w : World) (e : Ending) (w' : World) : Prop := w.grownBy w' none ∧ match codeT s with
  | some t => ∃ a c A k d hv lv, e = .returned (.tuple #[.agg #[.int .u8 a, .int .u8 c, .slice A k d], hv, lv, .bool true]) ∧ SN w' (fun _ => True) t (a, c, .slice A k d) ∧ w'.ownsRow w.heap.size 3 1 hv (cutB s).length (inV (htsB (cutB s) ([], []))) ∧ w'.ownsRow w.heap.size 3 1 lv (cutB s).length (inV (lvsB (cutB s) ([], [])))
  | none => ∃ hv lv, e = .returned (.tuple #[.agg #[.int .u8 0, .int .u8 0, .slice none 0 0], hv, lv, .bool false]) ∧ w'.ownsRow w.heap.size 3 1 hv 0 [] ∧ w'.ownsRow w.heap.size 3 1 lv 0 []
theorem bldP_none {s : ByteArray} {w w' : World} {e : Ending} {hv lv : Value} (hr : codeT s = none) (hg : w.grownBy w' none) (he : e = .returned (.tuple #[.agg #[.int .u8 0, .int .u8 0, .slice none 0 0], hv, lv, .bool false])) (h1 : w'.ownsRow w.heap.size 3 1 hv 0 []) (h2 : w'.ownsRow w.heap.size 3 1 lv 0 []) : BldP s w e w' := by
  unfold BldP; rw [hr]; exact ⟨hg, hv, lv, he, h1, h2⟩

theorem tvalid_txt {t : Tm} (ho : t.Ok) : tvalidA (bytesOf t.txt) = decide (t.txt.length ≤ 80) := by
  have hz := bytesOf_size t.txt
  by_cases h : t.txt.length ≤ 80
  · unfold tvalidA
    rw [readT_back ho (by simp [bytesOf]) (by omega), decide_eq_true h]; rfl
  · unfold tvalidA
    rw [readT_long (by omega), decide_eq_false h]; rfl
theorem codeT_run {s : ByteArray} (hs : ¬ 200 < s.size) (h : runB (cutB s) ([], []) = none) : codeT s = none := by
  unfold codeT; rw [if_neg hs, h]
theorem codeT_whole {s : ByteArray} {m : MS} (hs : ¬ 200 < s.size) (h : runB (cutB s) ([], []) = some m) (hw : whole m = none) : codeT s = none := by
  unfold codeT; rw [if_neg hs, h]; simp only [hw]
theorem codeT_some {s : ByteArray} {m : MS} {t : Tm} (hs : ¬ 200 < s.size) (h : runB (cutB s) ([], []) = some m) (hw : whole m = some t) : codeT s = if t.txt.length ≤ 80 then some t else none := by
  unfold codeT; rw [if_neg hs, h]; simp only [hw]

/-- An empty row of ints that was made. -/
theorem own_mt {w : World} {base : Nat} (h : base ≤ w.heap.size) : (w.alloc (.cells #[] 3)).ownsRow base 3 1 (.slice (some ⟨w.heap.size, 0, none⟩) 0 0) 0 [] := by
  have := World.ownsRow_made (base := base) (e := 3) (size := 1) w #[] 0 h (by simp) (by simp)
  simpa using this

theorem own_laid {W : World} {base q n : Nat} {v x y z x' y' z' : Value} {ys : List Value} (h : W.ownsRow base 3 1 v n ys) (hq : C3 W q x y z 52) : (laid3 W q x' y' z').ownsRow base 3 1 v n ys := by
  have hc : Chg (fun k => k = q) W (laid3 W q x' y' z') := chg_laid (Chg.refl _ _) rfl
  exact hc.own h (fun g hg e => own_not h hq (by decide) (e ▸ hg))

set_option maxRecDepth 100000 in
set_option maxHeartbeats 1000000 in
theorem bld_long (s : ByteArray) (w : World) (hs : 200 < s.size) :
    Calls Tryz.prog 43 #[.string s] w (BldP s w) := by
  have HR := Lib.hid (show codeT s = none by unfold codeT; rw [if_pos hs])
  have hd : (((s.size : Nat) : Int) > 200) := by omega
  obtain ⟨n, hn⟩ : ∃ n, s.size = n := ⟨_, rfl⟩
  rw [hn] at hs hd
  obtain ⟨wa, hwa⟩ : ∃ z, w.alloc (.cells #[.int .u8 0, .int .u8 0, .slice none 0 0] 52) = z := ⟨_, rfl⟩
  obtain ⟨wb, hwb⟩ : ∃ z, wa.alloc (.cells #[.slice none 0 0, .slice none 0 0, .slice none 0 0] 129) = z := ⟨_, rfl⟩
  obtain ⟨wc, hwc⟩ : ∃ z, wb.alloc (.cells #[] 3) = z := ⟨_, rfl⟩
  obtain ⟨wd, hwd⟩ : ∃ z, wc.alloc (.cells #[] 3) = z := ⟨_, rfl⟩
  have ga : w.grownBy wa none := by rw [← hwa]; exact World.grownBy_alloc _ _ _
  have gb : wa.grownBy wb none := by rw [← hwb]; exact World.grownBy_alloc _ _ _
  have gc : wb.grownBy wc none := by rw [← hwc]; exact World.grownBy_alloc _ _ _
  have gd : wc.grownBy wd none := by rw [← hwd]; exact World.grownBy_alloc _ _ _
  have hq : C3 wa w.heap.size (.int .u8 0) (.int .u8 0) (.slice none 0 0) 52 := by rw [← hwa]; exact c3_new _ _ _ _ _
  have hqd := ((hq.grown gb (by simp)).grown gc (by simp)).grown gd (by simp)
  have m0 := hqd.c0
  have m1 := hqd.c1
  have m2 := hqd.c2
  have m3 := hqd.f 0
  have m4 := hqd.f 1
  have m5 := hqd.f 2
  have s1 : w.heap.size ≤ wb.heap.size := Nat.le_trans ga.size gb.size
  have s2 := gc.size
  have r1 : wd.ownsRow w.heap.size 3 1 (.slice (some ⟨wb.heap.size, 0, none⟩) 0 0) 0 [] := by
    have := own_mt (w := wb) s1
    rw [hwc] at this
    exact own_keep this (fun k hk => gd.block k (this.lt k hk).2 (by simp))
  have r2 : wd.ownsRow w.heap.size 3 1 (.slice (some ⟨wc.heap.size, 0, none⟩) 0 0) 0 [] := by
    have := own_mt (w := wc) (Nat.le_trans s1 s2)
    rw [hwd] at this
    exact this
  have HG := Lib.hid (((ga.trans gb).trans gc).trans gd)
  have R1 := Lib.hid r1
  have R2 := Lib.hid r2
  have HQ := Lib.hid hqd
  clear ga gb gc gd hq hqd s1 s2 r1 r2
  go_enter Tryz.func43, Tryz.ntmps43
  go_wp2_with fail
  have HL : C3 (laid3 wd w.heap.size (.int .u8 0) (.int .u8 0) (.slice none 0 0)) w.heap.size (.int .u8 0) (.int .u8 0) (.slice none 0 0) 52 := HQ.out.laid
  have n0 := HL.c0
  have n1 := HL.c1
  have n2 := HL.c2
  unfold laid3 at n0 n1 n2
  clear m0 m1 m2 m3 m4 m5
  refine bodyPost_ret (v := .tuple #[.agg #[.int .u8 0, .int .u8 0, .slice none 0 0], .slice (some ⟨wb.heap.size, 0, none⟩) 0 0, .slice (some ⟨wc.heap.size, 0, none⟩) 0 0, .bool false]) (by simp [results, Tryz.results43, go_sem, n0, n1, n2]) rfl ?_
  exact bldP_none HR.out (gr_laid3n HG.out (Nat.le_refl _) _ _ _) rfl (own_laid R1.out HQ.out) (own_laid R2.out HQ.out)


/-- Between two rounds. -/
def BLd (w : World) (s : ByteArray) (pv hv lv : Value) (j : Nat) (W : World) : Prop := ∃ m v0 v1 v2 xs, runB ((cutB s).take j) ([], []) = some m ∧ Told7 j m ∧ BM w s pv hv lv (htsB ((cutB s).take j) ([], [])) (lvsB ((cutB s).take j) ([], [])) m v0 v1 v2 xs W

/-- Ahead of the first one. -/
theorem bld_start {w wa wb wc wd we : World} {s : ByteArray} {pv : Value} (hwa : w.alloc (.cells #[.int .u8 0, .int .u8 0, .slice none 0 0] 52) = wa) (hwb : wa.alloc (.cells #[.slice none 0 0, .slice none 0 0, .slice none 0 0] 129) = wb) (hwc : wb.alloc (.cells #[] 3) = wc) (hwd : wc.alloc (.cells #[] 3) = wd)
    (hg : wd.grownBy we none) (ho : we.ownsRow wd.heap.size 9 1 pv (cutB s).length (stV (cutB s))) : BLd w s pv (.slice (some ⟨wb.heap.size, 0, none⟩) 0 0) (.slice (some ⟨wc.heap.size, 0, none⟩) 0 0) 0 we := by
  have ga : w.grownBy wa none := by rw [← hwa]; exact World.grownBy_alloc _ _ _
  have gb : wa.grownBy wb none := by rw [← hwb]; exact World.grownBy_alloc _ _ _
  have gc : wb.grownBy wc none := by rw [← hwc]; exact World.grownBy_alloc _ _ _
  have gd : wc.grownBy wd none := by rw [← hwd]; exact World.grownBy_alloc _ _ _
  have za : wa.heap.size = w.heap.size + 1 := by rw [← hwa]; simp
  have zb : wb.heap.size = wa.heap.size + 1 := by rw [← hwb]; simp
  have zc : wc.heap.size = wb.heap.size + 1 := by rw [← hwc]; simp
  have zd : wd.heap.size = wc.heap.size + 1 := by rw [← hwd]; simp
  have hq : C3 wa w.heap.size (.int .u8 0) (.int .u8 0) (.slice none 0 0) 52 := by rw [← hwa]; exact c3_new _ _ _ _ _
  have hb : C3 wb (w.heap.size + 1) (.slice none 0 0) (.slice none 0 0) (.slice none 0 0) 129 := by rw [← hwb, ← za]; exact c3_new _ _ _ _ _
  have r1 : we.ownsRow (w.heap.size + 1) 3 1 (.slice (some ⟨wb.heap.size, 0, none⟩) 0 0) 0 [] := by
    have := own_mt (w := wb) (base := w.heap.size + 1) (by omega)
    rw [hwc] at this
    have h2 := own_keep this (fun k hk => gd.block k (this.lt k hk).2 (by simp))
    exact own_keep h2 (fun k hk => hg.block k (h2.lt k hk).2 (by simp))
  have r2 : we.ownsRow (w.heap.size + 1) 3 1 (.slice (some ⟨wc.heap.size, 0, none⟩) 0 0) 0 [] := by
    have := own_mt (w := wc) (base := w.heap.size + 1) (by omega)
    rw [hwd] at this
    exact own_keep this (fun k hk => hg.block k (this.lt k hk).2 (by simp))
  have gall := ((gb.trans gc).trans gd).trans hg
  have gal2 := (gc.trans gd).trans hg
  refine ⟨([], []), .slice none 0 0, .slice none 0 0, .slice none 0 0, [], rfl, told7_nil, ⟨ga.trans gall, hq.grown gall (by simp), ?_, r1, r2, ?_, ⟨Nat.le_refl _, hb.grown gal2 (by simp), ⟨rfl, .inl ⟨rfl, rfl⟩⟩, trivial, ⟨rfl, .inl ⟨rfl, rfl⟩⟩, ⟨rfl, .inl ⟨rfl, rfl⟩⟩⟩, ?_, ?_, ?_⟩⟩
  · exact own_base ho (by omega)
  · intro g h1 h2
    cases h1
    have h3 : wc.heap.size = wb.heap.size := Option.some.inj h2
    omega
  · intro g _ e; cases e
  · intro g _ e; cases e
  · intro g _ e; cases e

theorem BM.chg {w W W' : World} {s : ByteArray} {pv hv lv : Value} {hl ll : List Int} {m : MS} {v0 v1 v2 : Value} {xs : List (Int × Int × Value)} (h : BM w s pv hv lv hl ll m v0 v1 v2 xs W) (hc : Chg (BW (w.heap.size + 1) v0 v1 v2) W W') : w.grownBy W' none ∧ C3 W' w.heap.size (.int .u8 0) (.int .u8 0) (.slice none 0 0) 52 := by
  have hge : ∀ k, BW (w.heap.size + 1) v0 v1 v2 k → w.heap.size + 1 ≤ k := fun k e => by
    rcases e with e | e | e | e
    · omega
    · exact (h.bs.st.lt k e).1
    · exact (h.bs.lo.lt k e).1
    · exact (h.bs.ba.lt k e).1
  exact ⟨⟨hc.os.trans h.gr.os, hc.tape.trans h.gr.tape, hc.output.trans h.gr.output, Nat.le_trans h.gr.size hc.size, fun k hk _ => (hc.same k (Nat.lt_of_lt_of_le hk h.gr.size) (fun e => by have := hge k e; omega)).trans (h.gr.block k hk (by simp))⟩,
    (hc.same _ h.q.lt (fun e => by have := hge _ e; omega)).trans h.q⟩

theorem runB_take {l : List ByteArray} {j : Nat} {x : ByteArray} (h : l[j]? = some x) : l.take (j + 1) = l.take j ++ [x] := by
  have hj : j < l.length := by
    rcases Nat.lt_or_ge j l.length with h' | h'
    · exact h'
    · rw [List.getElem?_eq_none h'] at h; cases h
  rw [List.take_add_one, h]; rfl

theorem sn_sign {w : World} {S : Nat → Prop} {t : Tm} {x : Int × Int × Value} (ho : t.Ok) (h : SN w S t x) : x.1 ≠ 0 := by
  cases t with
  | dig c => rw [h.1]; decide
  | var c => rw [h.1]; decide
  | pre c s => rw [h.1]; intro e; have := ho.1; rw [e] at this; exact absurd this (by decide)
  | two c s t => rw [h.1]; intro e; have := ho.1; rw [e] at this; exact absurd this (by decide)
  | loop c v s t => rw [h.1]; intro e; have := ho.1; rw [e] at this; exact absurd this (by decide)
theorem row0_laid {w : World} {q : Nat} {v x y z x' y' z' : Value} (h : w.ownsRow 0 52 3 v 0 []) (hq : C3 w q x y z 52) : (laid3 w q x' y' z').ownsRow 0 52 3 v 0 [] := by
  rcases h.2 with h0 | ⟨g, cap, cur, hv, hb, hg, hnc, hcm, hcs, htake⟩
  · exact ⟨h.1, .inl h0⟩
  · by_cases e : g = q
    · subst e
      have h2 := hq
      unfold C3 at h2
      rw [hg] at h2
      cases h2
      exact ⟨h.1, .inr ⟨g, cap, #[x', y', z'], hv, hb, hq.laid, hnc, hcm, by simpa using hcs, by simp⟩⟩
    · have hc : Chg (fun k => k = q) w (laid3 w q x' y' z') := chg_laid (Chg.refl _ _) rfl
      exact hc.own h (fun k hk e2 => by rw [hv] at hk; cases hk; exact e e2)
theorem rowN_laid {w : World} {q n : Nat} {v y z x' y' z' : Value} {N : Int × Int × Value} {l : List (Int × Int × Value)} (h : w.ownsRow 0 52 3 v n (flat3 (N :: l))) (hn : N.1 ≠ 0) (hq : C3 w q (.int .u8 0) y z 52) : (laid3 w q x' y' z').ownsRow 0 52 3 v n (flat3 (N :: l)) := by
  have hc : Chg (fun k => k = q) w (laid3 w q x' y' z') := chg_laid (Chg.refl _ _) rfl
  refine hc.own h (fun k hk e => ?_)
  subst e
  obtain ⟨A, k1, c, rfl⟩ := own_form h
  rcases h.2 with ⟨hv, h0⟩ | ⟨g, cap, cur, hv, hb, hg, hnc, hcm, hcs, htake⟩
  · rw [hv] at hk; cases hk
  · cases hv
    cases hk
    have h1 := own_cell (i := 0) h (x := .int .u8 N.1) rfl
    rw [hq.c0] at h1
    exact hn (by simpa using h1.symm)
theorem sn_laid {w : World} {q : Nat} {y z x' y' z' : Value} {S : Nat → Prop} (hq : C3 w q (.int .u8 0) y z 52) : ∀ (t : Tm) (x : Int × Int × Value), t.Ok → SN w S t x → SN (laid3 w q x' y' z') S t x := by
  intro t
  induction t with
  | dig c => exact fun x _ ⟨h1, h2, ho, hS⟩ => ⟨h1, h2, row0_laid ho hq, hS⟩
  | var c => exact fun x _ ⟨h1, h2, ho, hS⟩ => ⟨h1, h2, row0_laid ho hq, hS⟩
  | pre c s ih => exact fun x hk ⟨h1, h2, y, ho, hS, h3⟩ => ⟨h1, h2, y, rowN_laid ho (sn_sign hk.2 h3) hq, hS, ih y hk.2 h3⟩
  | two c s t ih1 ih2 => exact fun x hk ⟨h1, h2, y, z, ho, hS, h3, h4⟩ => ⟨h1, h2, y, z, rowN_laid ho (sn_sign hk.2.1 h3) hq, hS, ih1 y hk.2.1 h3, ih2 z hk.2.2 h4⟩
  | loop c v s t ih1 ih2 => exact fun x hk ⟨h1, h2, y, z, ho, hS, h3, h4⟩ => ⟨h1, h2, y, z, rowN_laid ho (sn_sign hk.2.2.1 h3) hq, hS, ih1 y hk.2.2.1 h3, ih2 z hk.2.2.2 h4⟩

set_option maxRecDepth 100000 in
set_option maxHeartbeats 4000000 in
theorem bld_any (s : ByteArray) (w : World) :
    Calls Tryz.prog 43 #[.string s] w (BldP s w) := by
  by_cases hs : 200 < s.size
  · exact bld_long s w hs
  obtain ⟨i0, hi0, hz0, hz1, hz2⟩ := info_parts infoIn
  have hd : ¬ (((s.size : Nat) : Int) > 200) := by omega
  have HS := Lib.hid hs
  obtain ⟨n, hn⟩ : ∃ n, (cutB s).length = n := ⟨_, rfl⟩
  have hn2 : n ≤ 201 := by have := cutB_len s; omega
  have HC := Lib.hid (fun w => scut_any s (by omega) w)
  have HN := Lib.hid hn
  obtain ⟨ns, hns⟩ : ∃ n, s.size = n := ⟨_, rfl⟩
  rw [hns] at hd
  obtain ⟨wa, hwa⟩ : ∃ z, w.alloc (.cells #[.int .u8 0, .int .u8 0, .slice none 0 0] 52) = z := ⟨_, rfl⟩
  obtain ⟨wb, hwb⟩ : ∃ z, wa.alloc (.cells #[.slice none 0 0, .slice none 0 0, .slice none 0 0] 129) = z := ⟨_, rfl⟩
  obtain ⟨wc, hwc⟩ : ∃ z, wb.alloc (.cells #[] 3) = z := ⟨_, rfl⟩
  obtain ⟨wd, hwd⟩ : ∃ z, wc.alloc (.cells #[] 3) = z := ⟨_, rfl⟩
  have HST := Lib.hid (fun we pv => bld_start (w := w) (we := we) (s := s) (pv := pv) hwa hwb hwc hwd)
  have HZA := Lib.hid (show wa.heap.size = w.heap.size + 1 by rw [← hwa]; simp)
  clear hs hn
  go_enter Tryz.func43, Tryz.ntmps43
  go_wp2_with fail
  refine (HC.out wd).mono ?_
  rintro e we ⟨pv, rfl, hge, hoe⟩
  obtain ⟨PA, pk, pc, rfl⟩ := own_form hoe
  obtain rfl := own_len hoe
  have HB0 := Lib.hid (HST.out we _ hge hoe)
  clear hge hoe HST hwa hwb hwc hwd
  rw [HN.out] at HB0
  rw [HN.out]
  go_wp2_with fail
  go_loopw [7, 8, 25] (fun h l i wr => ∃ (j : Nat) (A1 A2 : Option Addr) (c1 c2 : Nat), j ≤ n ∧ i = .int .i64 j ∧ h = .slice A1 j c1 ∧ l = .slice A2 j c2 ∧ Hid (BLd w s (.slice PA n pc) (.slice A1 j c1) (.slice A2 j c2) j wr)) (fun _ _ i _ => n - (intOf i).toNat)
  case atStart => exact ⟨0, _, _, 0, 0, Nat.zero_le _, rfl, rfl, rfl, HB0⟩
  case round =>
    obtain ⟨j, A1, A2, c1, c2, hjn, rfl, rfl, rfl, hB⟩ := hrel
    clear HB0
    obtain ⟨m, v0, v1, v2, xs, hrun, hT, hM⟩ := hB.out
    have HB := Lib.hid hB.out
    clear hB
    have HM := Lib.hid hM
    by_cases hlt : j < n
    · obtain ⟨x, hx⟩ : ∃ x, (cutB s)[j]? = some x := ⟨_, List.getElem?_eq_getElem (by rw [HN.out]; exact hlt)⟩
      have hpc := hM.pc
      rw [HN.out] at hpc
      rcases hpc.2 with ⟨_, h0⟩ | ⟨pg, cap, cur, hv, _, _, hpn, _, _, _⟩
      · omega
      cases hv
      have hcell : wr.cell? ⟨pg, j, none⟩ = some (.string x) := own_cell hpc (by simp [stV, hx])
      obtain ⟨A3, k3, c3, rfl⟩ := own_form hM.bs.lo
      have hk3 := own_len hM.bs.lo
      subst hk3
      have hbs := hM.bs
      rw [← HZA.out] at hbs
      have b1 := hbs.box.c1
      have HD := Lib.hid (sdo_any wa.heap.size wa.heap.size x j m hT (by omega) v0 _ v2 xs wr hbs (by have := hbs.box.lt; omega))
      have HX := Lib.hid hx
      have HRT := Lib.hid (And.intro hrun hT)
      have hlv : m.2.length ≤ 201 := by have := hT.lv; omega
      obtain ⟨lz, hlz⟩ : ∃ z, m.2.length = z := ⟨_, rfl⟩
      have HLZ := Lib.hid hlz
      rw [hlz] at b1 HD HM hlv
      clear hpc hM hbs hx hrun hT hlz
      cases hsx : stepB x m with
      | none =>
        rw [hsx] at HD
        have HNO := Lib.hid (codeT_run HS.out (runB_snoc_none HRT.out.1 hsx _ ⟨(cutB s).drop (j + 1), by rw [← runB_take HX.out]; exact List.take_append_drop _ _⟩))
        clear hsx
        go_wp2_with fail
        refine HD.out.mono ?_
        rintro e w2 hd
        obtain rfl : e = .returned (.bool false) := doP_ret hd
        have hc := hd.1
        rw [HZA.out] at hc
        obtain ⟨hg2, hq2⟩ := HM.out.chg hc
        obtain ⟨w3, hw3⟩ : ∃ z, w2.alloc (.cells #[] 3) = z := ⟨_, rfl⟩
        obtain ⟨w4, hw4⟩ : ∃ z, w3.alloc (.cells #[] 3) = z := ⟨_, rfl⟩
        have g3 : w2.grownBy w3 none := by rw [← hw3]; exact World.grownBy_alloc _ _ _
        have g4 : w3.grownBy w4 none := by rw [← hw4]; exact World.grownBy_alloc _ _ _
        have hq4 := (hq2.grown g3 (by simp)).grown g4 (by simp)
        have r1 : w4.ownsRow w.heap.size 3 1 (.slice (some ⟨w2.heap.size, 0, none⟩) 0 0) 0 [] := by
          have := own_mt (w := w2) (base := w.heap.size) hg2.size
          rw [hw3] at this
          exact own_keep this (fun k hk => g4.block k (this.lt k hk).2 (by simp))
        have r2 : w4.ownsRow w.heap.size 3 1 (.slice (some ⟨w3.heap.size, 0, none⟩) 0 0) 0 [] := by
          have := own_mt (w := w3) (base := w.heap.size) (Nat.le_trans hg2.size g3.size)
          rw [hw4] at this
          exact this
        have m0 := hq4.c0
        have m1 := hq4.c1
        have m2 := hq4.c2
        have m3 := hq4.f 0
        have m4 := hq4.f 1
        have m5 := hq4.f 2
        have HQ := Lib.hid hq4
        have R1 := Lib.hid r1
        have R2 := Lib.hid r2
        have HG := Lib.hid ((hg2.trans g3).trans g4)
        clear hd hc hg2 hq2 g3 g4 hq4 r1 r2 b1 hcell
        go_wp2_with fail
        have HL : C3 (laid3 w4 w.heap.size (.int .u8 0) (.int .u8 0) (.slice none 0 0)) w.heap.size (.int .u8 0) (.int .u8 0) (.slice none 0 0) 52 := HQ.out.laid
        have n0 := HL.c0
        have n1 := HL.c1
        have n2 := HL.c2
        unfold laid3 at n0 n1 n2
        clear m0 m1 m2 m3 m4 m5
        refine bodyPost_ret (v := .tuple #[.agg #[.int .u8 0, .int .u8 0, .slice none 0 0], .slice (some ⟨w2.heap.size, 0, none⟩) 0 0, .slice (some ⟨w3.heap.size, 0, none⟩) 0 0, .bool false]) (by simp [results, Tryz.results43, go_sem, n0, n1, n2]) rfl ?_
        exact bldP_none HNO.out (gr_laid3n HG.out (Nat.le_refl _) _ _ _) rfl (own_laid R1.out HQ.out) (own_laid R2.out HQ.out)
      | some m' =>
        rw [hsx] at HD
        have HSX := Lib.hid hsx
        clear hsx
        go_wp2_with fail
        refine HD.out.mono ?_
        rintro e w2 hd
        obtain rfl : e = .returned (.bool true) := doP_ret hd
        obtain ⟨hc, _, u0, u1, u2, xs', hb, f0, f1, f2⟩ := hd
        rw [HZA.out] at hc hb
        have hM2 := HM.out.did hc hb f1 f2
        obtain ⟨A4, k4, c4, rfl⟩ := own_form hb.lo
        have hk4 := own_len hb.lo
        subst hk4
        obtain ⟨A5, k5, c5, rfl⟩ := own_form hb.st
        have hk5 := own_len hb.st
        subst hk5
        have hbx := hb.box
        rw [← HZA.out] at hbx
        have d0 := hbx.c0
        have d1 := hbx.c1
        have HM2 := Lib.hid hM2
        clear hc hb f0 f1 f2 hM2 hbx b1 hcell
        have hlo := HM2.out.lo
        have hl1 := own_len hlo
        rw [← hl1] at hlo
        have HL1 := Lib.hid hl1
        have HSZ := Lib.hid HM2.out.gr.size
        clear hl1
        have own1 := hlo.alloc (.cells #[.int .i64 (min (lz : Int) (m'.2.length : Int))] 3)
        go_wp2_with (at_builtin; refine wpList_append_own_at _ rfl _ _ 32 rfl (w.heap.size + 1) 3 i0 (.int .i64 0) 1 8 Tryz.underlying32 hi0 hz0 hz1 hz2 rfl (by decide) _ _ _ rfl own1 ⟨w2.heap.size, 0, none⟩ 1 1 [.int .i64 (min (lz : Int) (m'.2.length : Int))] rfl rfl ?a1 ?a2 ?a3 ?a4 ?a5 ?_)
        case a1 => exact cell_one_new _ _ _
        case a2 => simp [Value.oneCell']
        case a3 => simp only [maxLen]; omega
        case a4 => omega
        case a5 => have := HSZ.out; rw [World.size_alloc]; omega
        intro v8 w8 hown8 hg8 _ hb8
        obtain ⟨A8, k8, c8, rfl⟩ := own_form hown8
        have hk8 := own_len hown8
        subst hk8
        have hM3 := (HM2.out.grown (World.grownBy_alloc w2 (.cells #[.int .i64 (min (lz : Int) (m'.2.length : Int))] 3) none)).addL hg8 (by rw [← HL1.out]; exact hown8) (hb8.imp id (fun e => ⟨_, e, by simp⟩))
        have hbx := hM3.bs.box
        rw [← HZA.out] at hbx
        have e0 := hbx.c0
        have hho := hM3.ho
        have hl2 := own_len hho
        rw [← hl2] at hho
        have HL2 := Lib.hid hl2
        have HSZ8 := Lib.hid hM3.gr.size
        have HM3 := Lib.hid hM3
        have HLX := Lib.hid (bs_len hM3.bs)
        clear hl2 hM3 hbx hown8 hg8 hb8 own1 hlo d0 d1
        have own2 := hho.alloc (.cells #[.int .i64 (xs'.length : Int)] 3)
        go_wp2_with (at_builtin; refine wpList_append_own_at _ rfl _ _ 32 rfl (w.heap.size + 1) 3 i0 (.int .i64 0) 1 8 Tryz.underlying32 hi0 hz0 hz1 hz2 rfl (by decide) _ _ _ rfl own2 ⟨w8.heap.size, 0, none⟩ 1 1 [.int .i64 (xs'.length : Int)] rfl rfl ?a1 ?a2 ?a3 ?a4 ?a5 ?_)
        case a1 => exact cell_one_new _ _ _
        case a2 => simp [Value.oneCell']
        case a3 => simp only [maxLen]; omega
        case a4 => omega
        case a5 => have := HSZ8.out; rw [World.size_alloc]; omega
        intro v9 w9 hown9 hg9 _ hb9
        obtain ⟨A9, k9, c9, rfl⟩ := own_form hown9
        have hk9 := own_len hown9
        subst hk9
        have hM4 := (HM3.out.grown (World.grownBy_alloc w8 (.cells #[.int .i64 (xs'.length : Int)] 3) none)).addH hg9 (by rw [← HL2.out]; exact hown9) (hb9.imp id (fun e => ⟨_, e, by simp⟩))
        have HM4 := Lib.hid hM4
        clear hM4 hown9 hg9 hb9 own2 hho e0
        go_wp2_with fail
        go_roundw
        case rel =>
          have e1 : (xs'.length : Int) = (hgt m' : Int) := by rw [hgt_eq, HLX.out]
          have e2 : min (lz : Int) (m'.2.length : Int) = ((min m.2.length m'.2.length : Nat) : Int) := by rw [HLZ.out]; omega
          have e3 : htsB ((cutB s).take (j + 1)) ([], []) = htsB ((cutB s).take j) ([], []) ++ [(xs'.length : Int)] := by rw [runB_take HX.out, htsB_snoc _ _ _ _ _ HRT.out.1 HSX.out, e1]
          have e4 : lvsB ((cutB s).take (j + 1)) ([], []) = lvsB ((cutB s).take j) ([], []) ++ [min (lz : Int) (m'.2.length : Int)] := by rw [runB_take HX.out, lvsB_snoc _ _ _ _ _ HRT.out.1 HSX.out, e2]
          have h5 := HM4.out
          rw [← e3, ← e4] at h5
          have h6 : runB ((cutB s).take (j + 1)) ([], []) = some m' := by rw [runB_take HX.out, runB_snoc HRT.out.1]; exact HSX.out
          exact ⟨j + 1, A9, A8, c9, c8, hlt, by go_num, rfl, rfl, Lib.hid ⟨m', _, _, _, xs', h6, HRT.out.2.step HSX.out, h5⟩⟩
        case measure => simp [intOf]; omega
    · obtain rfl : j = n := by omega
      rw [List.take_of_length_le (Nat.le_of_eq HN.out)] at hrun HM
      obtain ⟨A3, k3, c3, rfl⟩ := own_form hM.bs.lo
      have hk3 := own_len hM.bs.lo
      subst hk3
      obtain ⟨A5, k5, c5, rfl⟩ := own_form hM.bs.st
      have hk5 := own_len hM.bs.st
      subst hk5
      have hbx := hM.bs.box
      rw [← HZA.out] at hbx
      have d0 := hbx.c0
      have d1 := hbx.c1
      have hlen := bs_len hM.bs
      have hT7 := hT.lv
      have hTg := hT.hg
      rw [hgt_eq] at hTg
      obtain ⟨nx, hnx⟩ : ∃ z, xs.length = z := ⟨_, rfl⟩
      obtain ⟨lz, hlz⟩ : ∃ z, m.2.length = z := ⟨_, rfl⟩
      have HNX := Lib.hid hnx
      have HLZ := Lib.hid hlz
      rw [hnx] at d0 hlen HM
      rw [hlz] at d1 hT7 HM
      have HRT := Lib.hid (And.intro hrun hT)
      by_cases h1 : nx = 1
      · by_cases h2 : lz = 0
        · obtain ⟨ts, os⟩ := m
          simp only at hlz
          subst h2
          obtain rfl : os = [] := List.length_eq_zero_iff.1 hlz
          obtain ⟨⟨na, nc, nv⟩, rfl⟩ : ∃ N, xs = [N] := List.length_eq_one_iff.1 (by omega)
          obtain ⟨t, rfl⟩ : ∃ t, ts = [t] := List.length_eq_one_iff.1 (by simp [low] at hlen; omega)
          subst h1
          have hsn := hM.bs.sn.1
          obtain ⟨A, k, d, hnv⟩ := hsn.form
          simp only at hnv
          subst hnv
          have hst := hM.bs.st
          simp only [List.length_cons, List.length_nil] at hst
          rcases hst.2 with ⟨_, h0⟩ | ⟨g, cap, cur, hv, _, _, hgc, _, _, _⟩
          · omega
          cases hv
          have hrow : ∀ W, wr.grownBy W none → W.cell? ⟨g, 0, none⟩ = some (.int .u8 na) ∧ W.cell? ⟨g, 1, none⟩ = some (.int .u8 nc) ∧ W.cell? ⟨g, 2, none⟩ = some (.slice A k d) := fun W hg =>
            ⟨hg.cell (own_cell (i := 0) hst rfl) (by simp), hg.cell (own_cell (i := 1) hst rfl) (by simp), hg.cell (own_cell (i := 2) hst rfl) (by simp)⟩
          obtain ⟨u0, u1, u2⟩ := hrow wr (gr_refl _ _)
          have hwt := whole_told (by have := HS.out; omega) hrun rfl
          have HOK := Lib.hid hwt
          have HTX := Lib.hid (stxt_any t _ na nc A k d wr hwt.1 (by omega) hsn)
          have hzz := bytesOf_size t.txt
          have HTV := Lib.hid (fun w => tvalid_spec (bytesOf t.txt) (by omega) w)
          have HROW := Lib.hid hrow
          have HSN := Lib.hid hsn
          have HBX := Lib.hid hbx
          clear hbx hrun hT hM hlen hnx hlz hT7 hTg hst hrow hwt hzz hsn
          go_wp2_with fail
          refine HTX.out.mono ?_
          rintro e wt ⟨rfl, hgt⟩
          have HGT := Lib.hid hgt
          clear hgt
          go_wp2_with fail
          refine (HTV.out wt).mono ?_
          rintro e wv ⟨rfl, hgv⟩
          have HGV := Lib.hid (HGT.out.trans hgv)
          rw [tvalid_txt HOK.out.1]
          clear hgv
          by_cases h80 : t.txt.length ≤ 80
          · rw [decide_eq_true h80]
            have HYES := Lib.hid (show codeT s = some t by rw [codeT_some HS.out HRT.out.1 (t := t) rfl, if_pos h80])
            have hMv := HM.out.grown HGV.out
            obtain ⟨p0, p1, p2⟩ := HROW.out wv HGV.out
            have hxv := HBX.out.grown HGV.out (by simp)
            have q0 := hxv.c0
            have m0 := hMv.q.c0
            have m1 := hMv.q.c1
            have m2 := hMv.q.c2
            have m3 := hMv.q.f 0
            have m4 := hMv.q.f 1
            have m5 := hMv.q.f 2
            have HMV := Lib.hid hMv
            clear d0 d1 u0 u1 u2 hMv hxv h80
            go_wp2_with fail
            have HL : C3 (laid3 wv w.heap.size (.int .u8 na) (.int .u8 nc) (.slice A k d)) w.heap.size (.int .u8 na) (.int .u8 nc) (.slice A k d) 52 := HMV.out.q.laid
            have n0 := HL.c0
            have n1 := HL.c1
            have n2 := HL.c2
            unfold laid3 at n0 n1 n2
            clear m0 m1 m2 m3 m4 m5 p0 p1 p2 q0
            refine bodyPost_ret (v := .tuple #[.agg #[.int .u8 na, .int .u8 nc, .slice A k d], .slice A1 j c1, .slice A2 j c2, .bool true]) (by simp [results, Tryz.results43, go_sem, n0, n1, n2]) rfl ?_
            have hsv := sn_laid (x' := .int .u8 na) (y' := .int .u8 nc) (z' := .slice A k d) HMV.out.q t _ HOK.out.1 (HSN.out.grown HGV.out)
            have ho1 := own_laid (x' := .int .u8 na) (y' := .int .u8 nc) (z' := .slice A k d) HMV.out.ho HMV.out.q
            have ho2 := own_laid (x' := .int .u8 na) (y' := .int .u8 nc) (z' := .slice A k d) HMV.out.lo HMV.out.q
            have l1 := own_len ho1
            have l2 := own_len ho2
            rw [← l1] at ho1
            rw [← l2] at ho2
            unfold BldP
            rw [HYES.out]
            refine ⟨gr_laid3n HMV.out.gr (Nat.le_refl _) _ _ _, na, nc, A, k, d, _, _, rfl, SN.keepT (fun _ _ _ _ h => h) (fun _ _ _ => trivial) _ _ hsv, ?_, ?_⟩
            · rw [HN.out]; exact own_base ho1 (by omega)
            · rw [HN.out]; exact own_base ho2 (by omega)
          · rw [decide_eq_false h80]
            have HNO := Lib.hid (show codeT s = none by rw [codeT_some HS.out HRT.out.1 (t := t) rfl, if_neg h80])
            clear h80 d0 d1 u0 u1 u2
            obtain ⟨w3, hw3⟩ : ∃ z, wv.alloc (.cells #[] 3) = z := ⟨_, rfl⟩
            obtain ⟨w4, hw4⟩ : ∃ z, w3.alloc (.cells #[] 3) = z := ⟨_, rfl⟩
            have g3 : wv.grownBy w3 none := by rw [← hw3]; exact World.grownBy_alloc _ _ _
            have g4 : w3.grownBy w4 none := by rw [← hw4]; exact World.grownBy_alloc _ _ _
            have hg2 : w.grownBy wv none := HM.out.gr.trans HGV.out
            have hq2 : C3 wv w.heap.size (.int .u8 0) (.int .u8 0) (.slice none 0 0) 52 := HM.out.q.grown HGV.out (by simp)
            have hq4 := (hq2.grown g3 (by simp)).grown g4 (by simp)
            have r1 : w4.ownsRow w.heap.size 3 1 (.slice (some ⟨wv.heap.size, 0, none⟩) 0 0) 0 [] := by
              have := own_mt (w := wv) (base := w.heap.size) hg2.size
              rw [hw3] at this
              exact own_keep this (fun k hk => g4.block k (this.lt k hk).2 (by simp))
            have r2 : w4.ownsRow w.heap.size 3 1 (.slice (some ⟨w3.heap.size, 0, none⟩) 0 0) 0 [] := by
              have := own_mt (w := w3) (base := w.heap.size) (Nat.le_trans hg2.size g3.size)
              rw [hw4] at this
              exact this
            have m0 := hq4.c0
            have m1 := hq4.c1
            have m2 := hq4.c2
            have m3 := hq4.f 0
            have m4 := hq4.f 1
            have m5 := hq4.f 2
            have HQ := Lib.hid hq4
            have R1 := Lib.hid r1
            have R2 := Lib.hid r2
            have HG := Lib.hid ((hg2.trans g3).trans g4)
            clear hg2 hq2 g3 g4 hq4 r1 r2
            go_wp2_with fail
            have HL : C3 (laid3 w4 w.heap.size (.int .u8 0) (.int .u8 0) (.slice none 0 0)) w.heap.size (.int .u8 0) (.int .u8 0) (.slice none 0 0) 52 := HQ.out.laid
            have n0 := HL.c0
            have n1 := HL.c1
            have n2 := HL.c2
            unfold laid3 at n0 n1 n2
            clear m0 m1 m2 m3 m4 m5
            refine bodyPost_ret (v := .tuple #[.agg #[.int .u8 0, .int .u8 0, .slice none 0 0], .slice (some ⟨wv.heap.size, 0, none⟩) 0 0, .slice (some ⟨w3.heap.size, 0, none⟩) 0 0, .bool false]) (by simp [results, Tryz.results43, go_sem, n0, n1, n2]) rfl ?_
            exact bldP_none HNO.out (gr_laid3n HG.out (Nat.le_refl _) _ _ _) rfl (own_laid R1.out HQ.out) (own_laid R2.out HQ.out)
        · have HNO := Lib.hid (codeT_whole HS.out hrun (by
            unfold whole
            split
            · simp at hlz; omega
            · rfl))
          have c1' : (((nx : Nat) : Int) != 1) = false := by simp; omega
          have c2' : ((lz : Nat) : Int) > 0 := by omega
          clear hbx hrun hT hM hlen hnx hlz hT7 hTg h1 h2
          obtain ⟨w3, hw3⟩ : ∃ z, wr.alloc (.cells #[] 3) = z := ⟨_, rfl⟩
          obtain ⟨w4, hw4⟩ : ∃ z, w3.alloc (.cells #[] 3) = z := ⟨_, rfl⟩
          have g3 : wr.grownBy w3 none := by rw [← hw3]; exact World.grownBy_alloc _ _ _
          have g4 : w3.grownBy w4 none := by rw [← hw4]; exact World.grownBy_alloc _ _ _
          have hg2 : w.grownBy wr none := HM.out.gr
          have hq2 : C3 wr w.heap.size (.int .u8 0) (.int .u8 0) (.slice none 0 0) 52 := HM.out.q
          have hq4 := (hq2.grown g3 (by simp)).grown g4 (by simp)
          have r1 : w4.ownsRow w.heap.size 3 1 (.slice (some ⟨wr.heap.size, 0, none⟩) 0 0) 0 [] := by
            have := own_mt (w := wr) (base := w.heap.size) hg2.size
            rw [hw3] at this
            exact own_keep this (fun k hk => g4.block k (this.lt k hk).2 (by simp))
          have r2 : w4.ownsRow w.heap.size 3 1 (.slice (some ⟨w3.heap.size, 0, none⟩) 0 0) 0 [] := by
            have := own_mt (w := w3) (base := w.heap.size) (Nat.le_trans hg2.size g3.size)
            rw [hw4] at this
            exact this
          have m0 := hq4.c0
          have m1 := hq4.c1
          have m2 := hq4.c2
          have m3 := hq4.f 0
          have m4 := hq4.f 1
          have m5 := hq4.f 2
          have HQ := Lib.hid hq4
          have R1 := Lib.hid r1
          have R2 := Lib.hid r2
          have HG := Lib.hid ((hg2.trans g3).trans g4)
          clear hg2 hq2 g3 g4 hq4 r1 r2
          go_wp2_with fail
          have HL : C3 (laid3 w4 w.heap.size (.int .u8 0) (.int .u8 0) (.slice none 0 0)) w.heap.size (.int .u8 0) (.int .u8 0) (.slice none 0 0) 52 := HQ.out.laid
          have n0 := HL.c0
          have n1 := HL.c1
          have n2 := HL.c2
          unfold laid3 at n0 n1 n2
          clear m0 m1 m2 m3 m4 m5 d0 d1
          refine bodyPost_ret (v := .tuple #[.agg #[.int .u8 0, .int .u8 0, .slice none 0 0], .slice (some ⟨wr.heap.size, 0, none⟩) 0 0, .slice (some ⟨w3.heap.size, 0, none⟩) 0 0, .bool false]) (by simp [results, Tryz.results43, go_sem, n0, n1, n2]) rfl ?_
          exact bldP_none HNO.out (gr_laid3n HG.out (Nat.le_refl _) _ _ _) rfl (own_laid R1.out HQ.out) (own_laid R2.out HQ.out)
      · have HNO := Lib.hid (codeT_whole HS.out hrun (by
          unfold whole
          split
          · simp [low] at hlen; omega
          · rfl))
        have c1' : (((nx : Nat) : Int) != 1) = true := by simp; omega
        clear hbx hrun hT hM hlen hnx hlz hT7 hTg h1
        obtain ⟨w3, hw3⟩ : ∃ z, wr.alloc (.cells #[] 3) = z := ⟨_, rfl⟩
        obtain ⟨w4, hw4⟩ : ∃ z, w3.alloc (.cells #[] 3) = z := ⟨_, rfl⟩
        have g3 : wr.grownBy w3 none := by rw [← hw3]; exact World.grownBy_alloc _ _ _
        have g4 : w3.grownBy w4 none := by rw [← hw4]; exact World.grownBy_alloc _ _ _
        have hg2 : w.grownBy wr none := HM.out.gr
        have hq2 : C3 wr w.heap.size (.int .u8 0) (.int .u8 0) (.slice none 0 0) 52 := HM.out.q
        have hq4 := (hq2.grown g3 (by simp)).grown g4 (by simp)
        have r1 : w4.ownsRow w.heap.size 3 1 (.slice (some ⟨wr.heap.size, 0, none⟩) 0 0) 0 [] := by
          have := own_mt (w := wr) (base := w.heap.size) hg2.size
          rw [hw3] at this
          exact own_keep this (fun k hk => g4.block k (this.lt k hk).2 (by simp))
        have r2 : w4.ownsRow w.heap.size 3 1 (.slice (some ⟨w3.heap.size, 0, none⟩) 0 0) 0 [] := by
          have := own_mt (w := w3) (base := w.heap.size) (Nat.le_trans hg2.size g3.size)
          rw [hw4] at this
          exact this
        have m0 := hq4.c0
        have m1 := hq4.c1
        have m2 := hq4.c2
        have m3 := hq4.f 0
        have m4 := hq4.f 1
        have m5 := hq4.f 2
        have HQ := Lib.hid hq4
        have R1 := Lib.hid r1
        have R2 := Lib.hid r2
        have HG := Lib.hid ((hg2.trans g3).trans g4)
        clear hg2 hq2 g3 g4 hq4 r1 r2
        go_wp2_with fail
        have HL : C3 (laid3 w4 w.heap.size (.int .u8 0) (.int .u8 0) (.slice none 0 0)) w.heap.size (.int .u8 0) (.int .u8 0) (.slice none 0 0) 52 := HQ.out.laid
        have n0 := HL.c0
        have n1 := HL.c1
        have n2 := HL.c2
        unfold laid3 at n0 n1 n2
        clear m0 m1 m2 m3 m4 m5 d0 d1
        refine bodyPost_ret (v := .tuple #[.agg #[.int .u8 0, .int .u8 0, .slice none 0 0], .slice (some ⟨wr.heap.size, 0, none⟩) 0 0, .slice (some ⟨w3.heap.size, 0, none⟩) 0 0, .bool false]) (by simp [results, Tryz.results43, go_sem, n0, n1, n2]) rfl ?_
        exact bldP_none HNO.out (gr_laid3n HG.out (Nat.le_refl _) _ _ _) rfl (own_laid R1.out HQ.out) (own_laid R2.out HQ.out)
end

section
open Go.RowKit

theorem codeT_ok {s : ByteArray} {t : Tm} (h : codeT s = some t) : t.Ok ∧ t.txt.length ≤ 80 := by
  unfold codeT at h
  by_cases hs : 200 < s.size
  · rw [if_pos hs] at h; cases h
  · rw [if_neg hs] at h
    cases hr : runB (cutB s) ([], []) with
    | none => rw [hr] at h; cases h
    | some m =>
      rw [hr] at h
      simp only at h
      cases hw : whole m with
      | none => rw [hw] at h; cases h
      | some t' =>
        rw [hw] at h
        simp only at h
        split at h
        · cases h
          exact ⟨(whole_told (by omega) hr hw).1, by assumption⟩
        · cases h
def tofV (s : ByteArray) : ByteArray × Bool := match codeT s with
  | some t => (bytesOf t.txt, true)
  | none => (⟨#[]⟩, false)
def TofP (s : ByteArray) (w : World) (e : Ending) (w' : World) : Prop := e = .returned (.tuple #[.string (tofV s).1, .bool (tofV s).2]) ∧ w.grownBy w' none

set_option maxRecDepth 100000 in
set_option maxHeartbeats 1000000 in
theorem tof_spec (s : ByteArray) (w : World) : Calls Tryz.prog 17 #[.string s] w (TofP s w) := by
  have H := Lib.hid (bld_any s w)
  unfold TofP tofV
  cases hc : codeT s with
  | none =>
    simp only
    have HC := Lib.hid hc
    clear hc
    go_enter Tryz.func17, Tryz.ntmps17
    go_wp2_with fail
    refine H.out.mono ?_
    intro e w1 hp
    obtain ⟨hg, hp⟩ := hp
    rw [HC.out] at hp
    obtain ⟨hv, lv, rfl, h1, h2⟩ := hp
    obtain ⟨A1, k1, c1, rfl⟩ := own_form h1
    obtain ⟨A2, k2, c2, rfl⟩ := own_form h2
    have HG := Lib.hid (hg.trans (World.grownBy_alloc w1 (.cells #[.int .u8 0, .int .u8 0, .slice none 0 0] 52) none))
    clear hg h1 h2
    go_wp2_with fail
    go_ret2
    exact ⟨rfl, HG.out⟩
  | some t =>
    simp only
    have HC := Lib.hid hc
    have HOK := Lib.hid (codeT_ok hc)
    clear hc
    go_enter Tryz.func17, Tryz.ntmps17
    go_wp2_with fail
    refine H.out.mono ?_
    intro e w1 hp
    obtain ⟨hg, hp⟩ := hp
    rw [HC.out] at hp
    obtain ⟨a, c, A, k, d, hv, lv, rfl, hsn, h1, h2⟩ := hp
    obtain ⟨A1, k1, c1, rfl⟩ := own_form h1
    obtain ⟨A2, k2, c2, rfl⟩ := own_form h2
    obtain ⟨w2, hw2⟩ : ∃ z, w1.alloc (.cells #[.int .u8 a, .int .u8 c, .slice A k d] 52) = z := ⟨_, rfl⟩
    have g2 : w1.grownBy w2 none := by rw [← hw2]; exact World.grownBy_alloc _ _ _
    have hx : C3 w2 w1.heap.size (.int .u8 a) (.int .u8 c) (.slice A k d) 52 := by rw [← hw2]; exact c3_new _ _ _ _ _
    have x0 := hx.c0
    have x1 := hx.c1
    have x2 := hx.c2
    have HT := Lib.hid (stxt_any t _ a c A k d w2 HOK.out.1 (by have := HOK.out.2; omega) (hsn.grown g2))
    have HG := Lib.hid (hg.trans g2)
    clear hg h1 h2 hsn g2 hx
    go_wp2_with fail
    refine HT.out.mono ?_
    rintro e w3 ⟨rfl, hg3⟩
    have HG3 := Lib.hid (HG.out.trans hg3)
    clear hg3
    go_wp2_with fail
    go_ret2
    exact ⟨rfl, HG3.out⟩

set_option maxRecDepth 100000 in
set_option maxHeartbeats 1000000 in
theorem tof_impl (s : ByteArray) (w : World) : Calls Tryz.prog 10 #[.string s] w (TofP s w) := by
  have H := Lib.hid (readc_any s w)
  unfold TofP tofV
  cases hc : codeT s with
  | none =>
    simp only
    have HC := Lib.hid hc
    clear hc
    go_enter Tryz.func10, Tryz.ntmps10
    go_wp2_with fail
    refine H.out.mono ?_
    intro e w1 hp
    obtain ⟨hg, hp⟩ := hp
    rw [HC.out] at hp
    obtain rfl := hp
    have HG := Lib.hid (hg.trans (World.grownBy_alloc w1 (.cells #[.slice none 0 0, .nilIface] 59) none))
    clear hg
    go_wp2_with fail
    go_ret2
    exact ⟨rfl, HG.out⟩
  | some t =>
    simp only
    have HC := Lib.hid hc
    have HOK := Lib.hid (codeT_ok hc)
    clear hc
    go_enter Tryz.func10, Tryz.ntmps10
    go_wp2_with fail
    refine H.out.mono ?_
    intro e w1 hp
    obtain ⟨hg, hp⟩ := hp
    rw [HC.out] at hp
    obtain ⟨iv, xv, rfl, h1, h2⟩ := hp
    obtain ⟨A1, k1, c1, rfl⟩ := own_form h1
    obtain ⟨ty, pv, rfl⟩ := h2.iface
    obtain ⟨w2, hw2⟩ : ∃ z, w1.alloc (.cells #[.slice A1 k1 c1, .iface ty pv] 59) = z := ⟨_, rfl⟩
    have g2 : w1.grownBy w2 none := by rw [← hw2]; exact World.grownBy_alloc _ _ _
    have hx : Pr w2 w1.heap.size 59 (.slice A1 k1 c1) (.iface ty pv) := by rw [← hw2]; exact Pr.new _ _ _ _
    have x0 := hx.c0
    have x1 := hx.c1
    have HT := Lib.hid (textof_any t _ ty pv w2 HOK.out.1 (h2.grown g2) (by have := HOK.out.2; omega))
    have HG := Lib.hid (hg.trans g2)
    clear hg h1 h2 g2 hx
    go_wp2_with fail
    refine HT.out.mono ?_
    rintro e w3 ⟨rfl, hg3⟩
    have HG3 := Lib.hid (HG.out.trans hg3)
    clear hg3
    go_wp2_with fail
    go_ret2
    exact ⟨rfl, HG3.out⟩

def cvalA (s : ByteArray) : Bool := (codeT s).isSome
theorem tofV_cval (s : ByteArray) : (tofV s).2 = cvalA s := by
  unfold tofV cvalA
  cases codeT s <;> rfl

set_option maxHeartbeats 1000000 in
theorem cval_spec (s : ByteArray) (w : World) : Calls Tryz.prog 18 #[.string s] w fun e w' => e = .returned (.bool (cvalA s)) ∧ w.grownBy w' none := by
  have H := Lib.hid (tof_spec s w)
  unfold TofP at H
  rw [tofV_cval] at H
  generalize (tofV s).1 = x at H
  generalize cvalA s = b at H ⊢
  go_enter Tryz.func18, Tryz.ntmps18
  go_wp2_with fail
  refine H.out.mono ?_
  rintro e w1 ⟨rfl, hg⟩
  have HG := Lib.hid hg
  clear hg
  go_wp2_with fail
  go_ret
  exact ⟨rfl, HG.out⟩

set_option maxHeartbeats 1000000 in
theorem cval_impl (s : ByteArray) (w : World) : Calls Tryz.prog 12 #[.string s] w fun e w' => e = .returned (.bool (cvalA s)) ∧ w.grownBy w' none := by
  have H := Lib.hid (readc_any s w)
  have hx : ∀ e w', ReadP s w e w' → w.grownBy w' none ∧ ∃ iv xv, (∃ A k c, iv = .slice A k c) ∧ (xv = .nilIface ∨ ∃ ty pv, xv = .iface ty pv) ∧ e = .returned (.tuple #[.agg #[iv, xv], .bool (cvalA s)]) := by
    intro e w' hp
    obtain ⟨hg, hp⟩ := hp
    unfold cvalA
    cases hc : codeT s with
    | none =>
      rw [hc] at hp
      exact ⟨hg, _, _, ⟨_, _, _, rfl⟩, .inl rfl, hp⟩
    | some t =>
      rw [hc] at hp
      obtain ⟨iv, xv, rfl, h1, h2⟩ := hp
      exact ⟨hg, iv, xv, own_form h1, .inr h2.iface, rfl⟩
  have HX := Lib.hid hx
  clear hx
  generalize cvalA s = b at HX ⊢
  go_enter Tryz.func12, Tryz.ntmps12
  go_wp2_with fail
  refine H.out.mono ?_
  intro e w1 hp
  obtain ⟨hg, iv, xv, ⟨A, k, c, rfl⟩, hxv, rfl⟩ := HX.out e w1 hp
  have HG := Lib.hid hg
  clear hg hp
  rcases hxv with rfl | ⟨ty, pv, rfl⟩
  all_goals
    go_wp2_with fail
    go_ret
    exact ⟨rfl, HG.out.trans (World.grownBy_alloc _ _ _)⟩
end
end

/-! Hts -/
section

/-- The number of an instruction's kind. -/
def kn : Ins → Int
  | .dig _ => 1
  | .var _ => 2
  | .pre _ => 3
  | .two _ => 4
  | .beg _ _ => 5
  | .fin _ => 6
theorem ri3_ins {x : ByteArray} {i : Ins} (h : insOf x = some i) : (ri3 x).1 = kn i := by
  have h1 := riV_of x
  rw [h] at h1
  simp only at h1
  rw [riV_eq] at h1
  cases i <;> (simp only [Ins.val, insT, Value.agg.injEq] at h1; simp at h1; exact h1.1)

/-- What a kind adds to the height. -/
def gk (k : Int) : Int := if k = 1 ∨ k = 2 then 1 else if k = 4 ∨ k = 6 then -1 else 0
theorem gk_kn (i : Ins) : gk (kn i) = grow i := by cases i <;> simp [gk, kn, grow]
theorem gk_bd (k : Int) : -1 ≤ gk k ∧ gk k ≤ 1 := by unfold gk; split <;> (try split) <;> omega

/-- The heights, by kinds. -/
def sumsG : Int → List ByteArray → List Int
  | _, [] => []
  | h, x :: l => (h + gk (ri3 x).1) :: sumsG (h + gk (ri3 x).1) l
/-- The height behind some instructions. -/
def hAt (h : Int) : List ByteArray → Int
  | [] => h
  | x :: l => hAt (h + gk (ri3 x).1) l
theorem hAt_snoc (h : Int) (l : List ByteArray) (x : ByteArray) : hAt h (l ++ [x]) = hAt h l + gk (ri3 x).1 := by
  induction l generalizing h with
  | nil => rfl
  | cons y l ih => exact ih _
theorem hAt_bd (h : Int) (l : List ByteArray) : h - l.length ≤ hAt h l ∧ hAt h l ≤ h + l.length := by
  induction l generalizing h with
  | nil => simp [hAt]
  | cons y l ih =>
    have h1 := ih (h + gk (ri3 y).1)
    have h2 := gk_bd (ri3 y).1
    simp only [hAt, List.length_cons]
    omega
theorem sumsG_snoc (h : Int) (l : List ByteArray) (x : ByteArray) : sumsG h (l ++ [x]) = sumsG h l ++ [hAt h l + gk (ri3 x).1] := by
  induction l generalizing h with
  | nil => rfl
  | cons y l ih => simp only [List.cons_append, sumsG, hAt, ih]
theorem sumsG_len (h : Int) (l : List ByteArray) : (sumsG h l).length = l.length := by
  induction l generalizing h with
  | nil => rfl
  | cons y l ih => simp only [sumsG, List.length_cons, ih]
theorem hts_sums : ∀ (l : List ByteArray) (m m' : MS), runB l m = some m' → sumsG (hgt m) l = htsB l m
  | [], _, _, _ => rfl
  | x :: l, m, m', h => by
    simp only [runB] at h
    cases hs : stepB x m with
    | none => rw [hs] at h; cases h
    | some m1 =>
      rw [hs] at h
      have h2 := hs
      unfold stepB at h2
      cases hi : insOf x with
      | none => rw [hi] at h2; cases h2
      | some i =>
        rw [hi] at h2
        have h3 := step_hgt h2
        simp only [sumsG, htsB, hs]
        rw [ri3_ins hi, gk_kn, ← h3, hts_sums l m1 m' h]

/-- The level of an instruction, and the level behind it, by its kind. -/
def lk (k l : Int) : Int := if k = 6 then l - 1 else l
def lb2 (k l : Int) : Int := if k = 5 then lk k l + 1 else lk k l
def lvsG : Int → List ByteArray → List Int
  | _, [] => []
  | h, x :: l => lk (ri3 x).1 h :: lvsG (lb2 (ri3 x).1 h) l
def lAt (h : Int) : List ByteArray → Int
  | [] => h
  | x :: l => lAt (lb2 (ri3 x).1 h) l
theorem lAt_snoc (h : Int) (l : List ByteArray) (x : ByteArray) : lAt h (l ++ [x]) = lb2 (ri3 x).1 (lAt h l) := by
  induction l generalizing h with
  | nil => rfl
  | cons y l ih => exact ih _
theorem lb2_bd (k l : Int) : l - 1 ≤ lb2 k l ∧ lb2 k l ≤ l + 1 := by unfold lb2 lk; split <;> split <;> omega
theorem lAt_bd (h : Int) (l : List ByteArray) : h - l.length ≤ lAt h l ∧ lAt h l ≤ h + l.length := by
  induction l generalizing h with
  | nil => simp [lAt]
  | cons y l ih =>
    have h1 := ih (lb2 (ri3 y).1 h)
    have h2 := lb2_bd (ri3 y).1 h
    simp only [lAt, List.length_cons]
    omega
theorem lvsG_snoc (h : Int) (l : List ByteArray) (x : ByteArray) : lvsG h (l ++ [x]) = lvsG h l ++ [lk (ri3 x).1 (lAt h l)] := by
  induction l generalizing h with
  | nil => rfl
  | cons y l ih => simp only [List.cons_append, lvsG, lAt, ih]
theorem lvsG_len (h : Int) (l : List ByteArray) : (lvsG h l).length = l.length := by
  induction l generalizing h with
  | nil => rfl
  | cons y l ih => simp only [lvsG, List.length_cons, ih]
theorem lk_kn (i : Ins) (a b : Nat) (h : (b : Int) = a + levD i) : lk (kn i) a = ((min a b : Nat) : Int) ∧ lb2 (kn i) a = b := by
  cases i <;> simp only [levD] at h <;> simp only [lb2, lk, kn] <;> (constructor <;> simp <;> omega)
theorem lvs_sums : ∀ (l : List ByteArray) (m m' : MS), runB l m = some m' → lvsG m.2.length l = lvsB l m
  | [], _, _, _ => rfl
  | x :: l, m, m', h => by
    simp only [runB] at h
    cases hs : stepB x m with
    | none => rw [hs] at h; cases h
    | some m1 =>
      rw [hs] at h
      have h2 := hs
      unfold stepB at h2
      cases hi : insOf x with
      | none => rw [hi] at h2; cases h2
      | some i =>
        rw [hi] at h2
        have h3 := lk_kn i m.2.length m1.2.length (step_lev h2)
        simp only [lvsG, lvsB, hs]
        rw [ri3_ins hi, h3.1, h3.2, lvs_sums l m1 m' h]

/-- What HeightsOf and LevelsAt answer. -/
def htA (s : ByteArray) : List Int := match codeT s with
  | some _ => htsB (cutB s) ([], [])
  | none => []
def lvA (s : ByteArray) : List Int := match codeT s with
  | some _ => lvsB (cutB s) ([], [])
  | none => []
theorem codeT_ran {s : ByteArray} {t : Tm} (h : codeT s = some t) : s.size ≤ 200 ∧ ∃ m, runB (cutB s) ([], []) = some m := by
  unfold codeT at h
  by_cases hs : 200 < s.size
  · rw [if_pos hs] at h; cases h
  · rw [if_neg hs] at h
    refine ⟨by omega, ?_⟩
    cases hr : runB (cutB s) ([], []) with
    | none => rw [hr] at h; cases h
    | some m => exact ⟨m, rfl⟩
theorem htA_sums {s : ByteArray} {t : Tm} (h : codeT s = some t) : htA s = sumsG 0 (cutB s) := by
  obtain ⟨_, m, hm⟩ := codeT_ran h
  unfold htA
  rw [h]
  exact (hts_sums _ _ _ hm).symm
theorem lvA_sums {s : ByteArray} {t : Tm} (h : codeT s = some t) : lvA s = lvsG 0 (cutB s) := by
  obtain ⟨_, m, hm⟩ := codeT_ran h
  unfold lvA
  rw [h]
  exact (lvs_sums _ _ _ hm).symm
theorem htA_len (s : ByteArray) : (htA s).length ≤ 201 := by
  cases h : codeT s with
  | none => unfold htA; rw [h]; simp
  | some t => rw [htA_sums h, sumsG_len]; have := cutB_len s; have := (codeT_ran h).1; omega
theorem lvA_len (s : ByteArray) : (lvA s).length ≤ 201 := by
  cases h : codeT s with
  | none => unfold lvA; rw [h]; simp
  | some t => rw [lvA_sums h, lvsG_len]; have := cutB_len s; have := (codeT_ran h).1; omega
end

/-! HtsI -/
section
open Go.RowKit

set_option maxHeartbeats 1000000 in
theorem growth_any (k c v : Int) (w : World) :
    Calls Tryz.prog 73 #[.agg #[.int .i64 k, .int .u8 c, .int .u8 v]] w fun e w' => e = .returned (.int .i64 (gk k)) ∧ w.grownBy w' none := by
  have HX := Lib.hid (c3_new w (.int .i64 k) (.int .u8 c) (.int .u8 v) 66)
  have x0 := HX.out.c0
  obtain ⟨r, hr⟩ : ∃ r, gk k = r := ⟨_, rfl⟩
  rw [hr]
  by_cases h1 : k = 1
  · subst h1
    obtain rfl : 1 = r := hr
    go_enter Tryz.func73, Tryz.ntmps73
    go_wp2_with fail
    go_ret
    exact ⟨rfl, World.grownBy_alloc _ _ _⟩
  by_cases h2 : k = 2
  · subst h2
    obtain rfl : 1 = r := hr
    go_enter Tryz.func73, Tryz.ntmps73
    go_wp2_with fail
    go_ret
    exact ⟨rfl, World.grownBy_alloc _ _ _⟩
  by_cases h4 : k = 4
  · subst h4
    obtain rfl : -1 = r := hr
    go_enter Tryz.func73, Tryz.ntmps73
    go_wp2_with fail
    go_ret
    exact ⟨rfl, World.grownBy_alloc _ _ _⟩
  by_cases h6 : k = 6
  · subst h6
    obtain rfl : -1 = r := hr
    go_enter Tryz.func73, Tryz.ntmps73
    go_wp2_with fail
    go_ret
    exact ⟨rfl, World.grownBy_alloc _ _ _⟩
  obtain rfl : 0 = r := by rw [← hr]; unfold gk; rw [if_neg (by omega), if_neg (by omega)]
  have e1 : (k == 1) = false := by simpa using h1
  have e2 : (k == 2) = false := by simpa using h2
  have e4 : (k == 4) = false := by simpa using h4
  have e6 : (k == 6) = false := by simpa using h6
  clear hr
  go_enter Tryz.func73, Tryz.ntmps73
  go_wp2_with fail
  go_ret
  exact ⟨rfl, World.grownBy_alloc _ _ _⟩

/-- How a row of instructions reads. -/
theorem flatI_at : ∀ (l : List ByteArray) (j : Nat) (x : ByteArray), l[j]? = some x → (flatI l)[j * 3]? = some (.int .i64 (ri3 x).1) ∧ (flatI l)[j * 3 + 1]? = some (.int .u8 (ri3 x).2.1) ∧ (flatI l)[j * 3 + 2]? = some (.int .u8 (ri3 x).2.2)
  | [], j, x, h => by simp at h
  | y :: l, 0, x, h => by simp at h; subst h; exact ⟨rfl, rfl, rfl⟩
  | y :: l, j + 1, x, h => by
    have := flatI_at l j x (by simpa using h)
    have e1 : (j + 1) * 3 = j * 3 + 1 + 1 + 1 := by omega
    rw [e1]
    exact this
theorem irow3 {w : World} {base : Nat} {A : Option Addr} {k c : Nat} {xs : List ByteArray} (h : w.ownsRow base 66 3 (.slice A k c) xs.length (flatI xs)) :
    k = xs.length ∧ k ≤ c ∧ (0 < k → ∃ g, A = some ⟨g, 0, none⟩ ∧ g < w.heap.size ∧ ∀ (j : Nat) (x : ByteArray), xs[j]? = some x → w.cell? ⟨g, j * 3, none⟩ = some (.int .i64 (ri3 x).1) ∧ w.cell? ⟨g, j * 3 + 1, none⟩ = some (.int .u8 (ri3 x).2.1) ∧ w.cell? ⟨g, j * 3 + 2, none⟩ = some (.int .u8 (ri3 x).2.2)) := by
  rcases h.2 with ⟨hv, hn⟩ | ⟨g, cap, cur, hv, _, hg, hnc, hcm, hcs, htake⟩
  · cases hv
    exact ⟨by omega, by omega, fun h => by omega⟩
  · cases hv
    refine ⟨rfl, hnc, fun _ => ⟨g, rfl, (Array.getElem?_eq_some_iff.1 hg).1, fun j x hj => ?_⟩⟩
    have hjl : j < xs.length := by
      rcases Nat.lt_or_ge j xs.length with h | h
      · exact h
      · rw [List.getElem?_eq_none h] at hj; cases hj
    have hf := flatI_at xs j x hj
    have hc : ∀ i, i < xs.length * 3 → w.cell? ⟨g, i, none⟩ = (flatI xs)[i]? := fun i hi => by
      rw [cell_of_row w g i _ _ (0, 0) hg, ← htake, List.getElem?_take, if_pos hi]
      simp
    exact ⟨(hc _ (by omega)).trans hf.1, (hc _ (by omega)).trans hf.2.1, (hc _ (by omega)).trans hf.2.2⟩

theorem makeH_run (n : Nat) (hn : n ≤ 1048576) (u : World) : (Instr.makeSlice 32 (.int .i64 (n : Int)) (.int .i64 (n : Int))).run Tryz.prog u =
    .ok (.slice (some ⟨u.heap.size, 0, none⟩) n n) (u.alloc (.cells (madeCells #[.int .i64 0] n) 3)) := by
  obtain ⟨i0, hi0, hz0, hz1, hz2⟩ := info_parts infoJ
  have h := run_make (P := Tryz.prog) u 32 3 i0 (.int .i64 0) Tryz.underlying32 hi0 hz0 .i64 .i64 (n : Int) (n : Int) (by omega) (Int.le_refl _) (by rw [hz2]; omega) (by omega)
  simpa [hz1, Value.cells] using h
theorem madeH_own (w : World) (n : Nat) (hn : n ≤ 1048576) : (w.alloc (.cells (madeCells #[.int .i64 0] n) 3)).ownsRow w.heap.size 3 1 (.slice (some ⟨w.heap.size, 0, none⟩) n n) n (madeCells #[.int .i64 0] n).toList :=
  World.ownsRow_lit (base := w.heap.size) (e := 3) (size := 1) w (madeCells #[.int .i64 0] n) n (Nat.le_refl _) (by simp only [maxLen]; omega) (by simp [madeCells])
theorem take_setH {α : Type} (ys : List α) (m : Nat) (v : α) (h : m < ys.length) : (ys.set m v).take (m + 1) = ys.take m ++ [v] := by
  rw [List.take_add_one, List.take_set_of_le (Nat.le_refl _), List.getElem?_set_self h]
  rfl
theorem take_snocH {α : Type} {l : List α} {j : Nat} {x : α} (h : l[j]? = some x) : l.take (j + 1) = l.take j ++ [x] := by rw [List.take_add_one, h]; rfl

/-- How heights and levels end: a row of the call's own. -/
def RowP (zs : List Int) (w : World) (e : Ending) (w' : World) : Prop := ∃ v, e = .returned v ∧ w.grownBy w' none ∧ w'.ownsRow w.heap.size 3 1 v zs.length (inV zs)

set_option maxRecDepth 100000 in
set_option maxHeartbeats 4000000 in
theorem heights_any (base : Nat) (A : Option Addr) (k c : Nat) (ty : TypeId) (pv : Value) (xs : List ByteArray) (w : World) (h : w.ownsRow base 66 3 (.slice A k c) xs.length (flatI xs)) (hl : xs.length ≤ 1000) :
    Calls Tryz.prog 47 #[.agg #[.slice A k c, .iface ty pv]] w (RowP (sumsG 0 xs) w) := by
  obtain ⟨hk, hkc, hrow⟩ := irow3 h
  have HK := Lib.hid hk
  have hk2 : k ≤ 1000 := by omega
  have HROW := Lib.hid hrow
  have hmk := makeH_run k (by omega)
  obtain ⟨w1, hw1⟩ : ∃ z, w.alloc (.cells #[.slice A k c, .iface ty pv] 59) = z := ⟨_, rfl⟩
  have g1 : w.grownBy w1 none := by rw [← hw1]; exact World.grownBy_alloc _ _ _
  have hx : Pr w1 w.heap.size 59 (.slice A k c) (.iface ty pv) := by rw [← hw1]; exact Pr.new _ _ _ _
  have x0 := hx.c0
  have hx2 := hx.alloc (.cells (madeCells #[.int .i64 0] k) 3)
  have y0 := hx2.c0
  have HO := Lib.hid (own_base (madeH_own w1 k (by omega)) g1.size)
  have HG1 := Lib.hid (g1.trans (World.grownBy_alloc w1 (.cells (madeCells #[.int .i64 0] k) 3) none))
  clear h hk hrow g1 hx hx2
  go_enter Tryz.func47, Tryz.ntmps47
  go_wp2_with fail
  go_loopw [3, 14] (fun u i wr => ∃ (j : Nat) (hh : Int) (ys : List Value), j ≤ k ∧ i = .int .i64 j ∧ u = .int .i64 hh ∧ -1000 ≤ hh ∧ hh ≤ 1000 ∧ Hid (hh = hAt 0 (xs.take j)) ∧ Hid (wr.ownsRow w.heap.size 3 1 (.slice (some ⟨w1.heap.size, 0, none⟩) k k) k ys) ∧ Hid (ys.take j = inV (sumsG 0 (xs.take j))) ∧ Hid (w.grownBy wr none)) (fun _ i _ => k - (intOf i).toNat)
  case atStart => exact ⟨0, 0, _, Nat.zero_le _, rfl, rfl, by omega, by omega, Lib.hid (by simp [hAt]), HO, Lib.hid (by simp [sumsG, inV]), HG1⟩
  case round =>
    obtain ⟨j, hh, ys, hj, rfl, rfl, hlo, hhi, hhA, hown, hyt, hgr⟩ := hrel
    by_cases hlt : j < k
    · obtain ⟨g, rfl, hg1, hcell⟩ := HROW.out (by omega)
      obtain ⟨x, hx⟩ : ∃ x, xs[j]? = some x := ⟨_, List.getElem?_eq_getElem (by have := HK.out; omega)⟩
      obtain ⟨q0, q1, q2⟩ := hcell j x hx
      have c0 := hgr.out.cell q0 (by simp)
      have c1 := hgr.out.cell q1 (by simp)
      have c2 := hgr.out.cell q2 (by simp)
      have HTK := Lib.hid (take_snocH hx)
      have hbd := gk_bd (ri3 x).1
      have HH2 : Hid (hh + gk (ri3 x).1 = hAt 0 (xs.take (j + 1))) := Lib.hid (by rw [HTK.out, hAt_snoc, ← hhA.out])
      have hbd2 := hAt_bd 0 (xs.take (j + 1))
      rw [← HH2.out] at hbd2
      have HS2 : Hid (sumsG 0 (xs.take (j + 1)) = sumsG 0 (xs.take j) ++ [hh + gk (ri3 x).1]) := Lib.hid (by rw [HTK.out, sumsG_snoc, ← hhA.out])
      obtain ⟨kk, hkk⟩ : ∃ q, (ri3 x).1 = q := ⟨_, rfl⟩
      obtain ⟨sg, hsg⟩ : ∃ q, (ri3 x).2.1 = q := ⟨_, rfl⟩
      obtain ⟨vr, hvr⟩ : ∃ q, (ri3 x).2.2 = q := ⟨_, rfl⟩
      have HC := Lib.hid (fun u => growth_any kk sg vr u)
      rw [hkk] at c0 hbd HH2 hbd2 HS2
      rw [hsg] at c1
      rw [hvr] at c2
      obtain ⟨r, hr⟩ : ∃ r, gk kk = r := ⟨_, rfl⟩
      rw [hr] at HC hbd HH2 hbd2 HS2
      have hlen : (xs.take (j + 1)).length ≤ 1000 := by rw [List.length_take]; omega
      have hb1 : -1000 ≤ hh + r := by omega
      have hb2 : hh + r ≤ 1000 := by omega
      have ww : IntKind.i64.wrap (hh + r) = hh + r := IntWalk.i64_in _ (by omega)
      have hyl : ys.length = k := by have := hown.out.1; omega
      obtain ⟨y0v, hy0⟩ : ∃ y, ys[j]? = some y := ⟨_, List.getElem?_eq_getElem (by omega)⟩
      have HY0 := Lib.hid hy0
      have HYL := Lib.hid hyl
      clear hcell q0 q1 q2 hx hbd hbd2 hkk hsg hvr hr hlen hyl hy0 x0 y0
      go_wp2_with fail
      refine (HC.out _).mono ?_
      rintro e w2 ⟨rfl, hg2⟩
      have hg2' := (World.grownBy_alloc wr (.cells #[.int .i64 kk, .int .u8 sg, .int .u8 vr] 66) none).trans hg2
      have hown2 := own_keep hown.out (fun b hb => hg2'.block b (hown.out.lt b hb).2 (by simp))
      have hcell3 : w2.cell? ⟨w1.heap.size, j, none⟩ = some y0v := by have := (hown2.cellAt j (by omega)).trans HY0.out; simpa using this
      have hfr : w2.frozen? ⟨w1.heap.size, j, none⟩ = false := by have := hown2.frozenAt j; simpa using this
      have HST := Lib.hid (hown2.stored j (.int .i64 (hh + r)))
      have HB := Lib.hid ((hown2.lt _ rfl).1)
      have HYT : Hid ((ys.set j (.int .i64 (hh + r))).take (j + 1) = inV (sumsG 0 (xs.take (j + 1)))) := Lib.hid (by
        rw [take_setH _ _ _ (by rw [HYL.out]; exact hlt), hyt.out, HS2.out, inV_snoc])
      have HG2 := Lib.hid (hgr.out.trans hg2')
      clear hg2 hg2' hown2 c0 c1 c2
      go_wp2_with fail
      go_roundw
      case rel => exact ⟨j + 1, hh + r, _, by omega, by go_num, rfl, hb1, hb2, HH2, Lib.hid HST.out.1, HYT, Lib.hid (gr_ownF HG2.out HST.out.2 (fun k e => by cases e; exact HB.out))⟩
      case measure => simp [intOf]; omega
    · have hjk : j = k := by omega
      have HJ := Lib.hid hjk
      clear hjk
      go_wp2_with fail
      go_ret
      have e1 : xs.take j = xs := by rw [HJ.out, HK.out, List.take_length]
      have h3 := hyt.out
      have h4 := hown.out
      rw [e1, HJ.out, List.take_of_length_le (by have := h4.1; omega)] at h3
      rw [h3] at h4
      exact ⟨_, rfl, hgr.out, by rw [sumsG_len, ← HK.out]; exact h4⟩
end

/-! OwnSt -/
section
open Go.RowKit

def strV (ss : List ByteArray) : List Value := ss.map Value.string
theorem strV_snoc (l : List ByteArray) (x : ByteArray) : strV (l ++ [x]) = strV l ++ [.string x] := by simp [strV]

/-- A list of strings in an owned row. -/
def OwnS (w : World) (B : Nat) (v : Value) (ss : List ByteArray) : Prop := w.ownsRow B 9 1 v ss.length (strV ss)
theorem OwnS.keep {w w' : World} {B : Nat} {v : Value} {ss : List ByteArray} (h : OwnS w B v ss) (hg : w.grownBy w' none) : OwnS w' B v ss := own_keep h (fun b hb => hg.block b (h.lt b hb).2 (by simp))
theorem OwnS.form {w : World} {B : Nat} {v : Value} {ss : List ByteArray} (h : OwnS w B v ss) : ∃ A c, v = .slice A ss.length c := by
  rcases h.2 with ⟨hv, hn⟩ | ⟨g, cap, cur, hv, _⟩
  · exact ⟨none, 0, by rw [hv, hn]⟩
  · exact ⟨_, _, hv⟩
theorem OwnS.cells {w : World} {B : Nat} {A : Option Addr} {n c : Nat} {ss : List ByteArray} (h : OwnS w B (.slice A n c) ss) : n ≤ c ∧ ∀ (j : Nat) (x : ByteArray), ss[j]? = some x → ∃ g, A = some ⟨g, 0, none⟩ ∧ g < w.heap.size ∧ w.cell? ⟨g, j, none⟩ = some (.string x) ∧ w.frozen? ⟨g, j, none⟩ = false := by
  obtain ⟨h1, h2, h3⟩ := orow h
  refine ⟨h2, fun j x hj => ?_⟩
  have hl := (List.getElem?_eq_some_iff.1 hj).1
  obtain ⟨g, hA, _, hg, hc⟩ := h3 (by omega)
  subst hA
  exact ⟨g, rfl, hg, hc j (.string x) (by simp [strV, hj]), World.ownsRow.frozenAt (n := ss.length) (by rw [← h1]; rw [h1]; subst h1; exact h) j⟩
end

/-! InsT -/
section
open Go.RowKit

/-- The text of what was read. -/
def itext (x : ByteArray) : ByteArray := if (ri3 x).1 = 5 then strOfNums [(ri3 x).2.1, (ri3 x).2.2] else one (ri3 x).2.1
theorem byt_ba {x : ByteArray} {i : Nat} (h : i < x.size) : byt (ba x i) = x.data.toList[i]'(by simpa using h) := by
  rw [ba_in h]
  unfold byt
  simp
  rfl
theorem one_of {x : ByteArray} (h : x.size = 1) : one (ba x 0) = x := by
  have hb := byt_ba (x := x) (i := 0) (by omega)
  have hl : x.data.toList.length = 1 := by simpa using h
  apply ByteArray.ext
  apply Array.toList_inj.1
  rw [one_data, hb]
  apply List.ext_getElem (by simp [hl])
  intro i h1 h2
  obtain rfl : i = 0 := by simp at h1; omega
  rfl
theorem two_of {x : ByteArray} (h : x.size = 2) : strOfNums [ba x 0, ba x 1] = x := by
  have hb := byt_ba (x := x) (i := 0) (by omega)
  have hb1 := byt_ba (x := x) (i := 1) (by omega)
  have hl : x.data.toList.length = 2 := by simpa using h
  apply ByteArray.ext
  apply Array.toList_inj.1
  rw [strOfNums_data]
  apply List.ext_getElem (by simp [hl])
  intro i h1 h2
  have : i = 0 ∨ i = 1 := by simp at h1; omega
  rcases this with rfl | rfl
  · exact hb
  · exact hb1
theorem itext_is {x : ByteArray} {i : Ins} (h : insOf x = some i) : itext x = x := by
  have hk := ri3_ins h
  unfold insOf at h
  unfold itext
  by_cases h1 : x.size = 1
  · rw [if_pos h1] at h
    have h5 : (ri3 x).1 ≠ 5 := by
      rw [hk]
      unfold ins1 at h
      (repeat' split at h) <;> first | (cases h; simp [kn]) | cases h
    rw [if_neg h5]
    unfold ri3 at h5 ⊢
    by_cases hd : kd (ba x 0) ≠ 5
    · rw [if_pos ⟨h1, hd⟩]; exact one_of h1
    · exfalso
      unfold kd at hd
      unfold ins1 at h
      (repeat' split at h) <;> (try simp_all) <;> omega
  · rw [if_neg h1] at h
    by_cases h2 : x.size = 2 ∧ (ba x 0 = 91 ∨ ba x 0 = 123) ∧ isL (ba x 1) = true
    · rw [if_pos h2] at h
      cases h
      rw [if_pos (by rw [hk]; rfl)]
      have hk5 : kd (ba x 0) = 5 := by rcases h2.2.1 with e | e <;> rw [e] <;> decide
      unfold ri3
      rw [if_neg (by omega), if_pos ⟨h2.1, hk5, h2.2.2⟩]
      exact two_of h2.1
    · rw [if_neg h2] at h; cases h
theorem runB_ins : ∀ (l : List ByteArray) (m m' : MS), runB l m = some m' → ∀ x ∈ l, ∃ i, insOf x = some i
  | [], _, _, _, x, hx => by simp at hx
  | y :: l, m, m', h, x, hx => by
    simp only [runB] at h
    cases hs : stepB y m with
    | none => rw [hs] at h; cases h
    | some m1 =>
      rw [hs] at h
      rcases List.mem_cons.1 hx with rfl | hx
      · unfold stepB at hs
        cases hi : insOf x with
        | none => rw [hi] at hs; cases hs
        | some i => exact ⟨i, rfl⟩
      · exact runB_ins l m1 m' h x hx

theorem conv_two (w : World) (a b : Int) (k : Nat) (hk : w.heap.size = k) : (convert 22 9 (.slice (some ⟨k, 0, none⟩) 2 2)).run Tryz.prog (w.alloc (.cells #[.int .u8 a, .int .u8 b] 5)) = .ok (.string (strOfNums [a, b])) (w.alloc (.cells #[.int .u8 a, .int .u8 b] 5)) := by
  subst hk
  refine run_convert_bytes_arg (P := Tryz.prog) _ 22 5 Tryz.underlying22 Tryz.underlying5 w.heap.size 0 2 2 [a, b] rfl ?_ 9 Tryz.underlying9
  intro i hi
  have : i = 0 ∨ i = 1 := by omega
  rcases this with rfl | rfl
  · exact cell_of_row _ _ 0 _ _ (0, 0) (heap_alloc_new _ _)
  · exact cell_of_row _ _ 1 _ _ (0, 0) (heap_alloc_new _ _)

set_option maxHeartbeats 1000000 in
theorem instext_any (x : ByteArray) (k c v : Int) (hk : (ri3 x).1 = k) (hc : (ri3 x).2.1 = c) (hv : (ri3 x).2.2 = v) (w : World) :
    Calls Tryz.prog 39 #[.agg #[.int .i64 k, .int .u8 c, .int .u8 v]] w fun e w' => e = .returned (.string (itext x)) ∧ w.grownBy w' none := by
  obtain ⟨w1, hw1⟩ : ∃ z, w.alloc (.cells #[.int .i64 k, .int .u8 c, .int .u8 v] 66) = z := ⟨_, rfl⟩
  have hx : C3 w1 w.heap.size (.int .i64 k) (.int .u8 c) (.int .u8 v) 66 := by rw [← hw1]; exact c3_new _ _ _ _ _
  have g1 : w.grownBy w1 none := by rw [← hw1]; exact World.grownBy_alloc _ _ _
  have x0 := hx.c0
  have x1 := hx.c1
  have x2 := hx.c2
  have HG1 := Lib.hid g1
  obtain ⟨z, hz⟩ : ∃ z, itext x = z := ⟨_, rfl⟩
  rw [hz]
  unfold itext at hz
  rw [hk, hc, hv] at hz
  clear hx g1 hk hc hv
  by_cases h5 : k = 5
  · subst h5
    rw [if_pos rfl] at hz
    have hcv := conv_two w1 c v w1.heap.size rfl
    rw [hz] at hcv
    clear hz
    go_enter Tryz.func39, Tryz.ntmps39
    go_wp2_with fail
    go_ret
    exact ⟨rfl, HG1.out.trans (World.grownBy_alloc _ _ _)⟩
  · rw [if_neg h5] at hz
    have e5 : (k == 5) = false := by simpa using h5
    have hcv := conv_byte w1 c w1.heap.size rfl
    rw [hz] at hcv
    clear hz
    go_enter Tryz.func39, Tryz.ntmps39
    go_wp2_with fail
    go_ret
    exact ⟨rfl, HG1.out.trans (World.grownBy_alloc _ _ _)⟩

/-- What InstructionsOf answers. -/
def instA (s : ByteArray) : List ByteArray := match codeT s with
  | some _ => cutB s
  | none => []
theorem instA_len (s : ByteArray) : (instA s).length ≤ 201 := by
  cases h : codeT s with
  | none => unfold instA; rw [h]; simp
  | some t => unfold instA; rw [h]; have := cutB_len s; have := (codeT_ran h).1; simp only; omega
def InsP (ss : List ByteArray) (w : World) (e : Ending) (w' : World) : Prop := ∃ u, e = .returned u ∧ w.grownBy w' none ∧ OwnS w' w.heap.size u ss

set_option maxHeartbeats 1000000 in
theorem inst_spec (s : ByteArray) (hs : s.size ≤ 1048576) (w : World) :
    Calls Tryz.prog 21 #[.string s] w (InsP (instA s) w) := by
  have H := Lib.hid (cval_spec s w)
  have hca : cvalA s = (codeT s).isSome := rfl
  rw [hca] at H
  unfold instA InsP
  cases hc : codeT s with
  | none =>
    rw [hc] at H
    simp only [Option.isSome_none] at H ⊢
    clear hc hca
    go_enter Tryz.func21, Tryz.ntmps21
    go_wp2_with fail
    refine H.out.mono ?_
    rintro e w1 ⟨rfl, hg1⟩
    have HG1 := Lib.hid hg1
    have HO : Hid ((w1.alloc (.cells #[] 9)).ownsRow w.heap.size 9 1 (.slice (some ⟨w1.heap.size, 0, none⟩) 0 0) 0 []) := Lib.hid (by
      have := World.ownsRow_made (base := w.heap.size) (e := 9) (size := 1) w1 #[] 0 hg1.size (by simp) (by simp)
      simpa using this)
    clear hg1
    go_wp2_with fail
    go_ret
    exact ⟨_, rfl, HG1.out.trans (World.grownBy_alloc _ _ _), HO.out⟩
  | some t =>
    have h2 := (codeT_ran hc).1
    rw [hc] at H
    simp only [Option.isSome_some] at H ⊢
    have HC := Lib.hid (fun w => scut_any s (by omega) w)
    clear hc hca
    go_enter Tryz.func21, Tryz.ntmps21
    go_wp2_with fail
    refine H.out.mono ?_
    rintro e w1 ⟨rfl, hg1⟩
    have HG1 := Lib.hid hg1
    clear hg1
    go_wp2_with fail
    refine (HC.out _).mono ?_
    rintro e w2 ⟨v, rfl, hg2, ho2⟩
    obtain ⟨A, m, c, rfl⟩ := own_form ho2
    have HG2 := Lib.hid hg2
    have HO2 := Lib.hid ho2
    clear hg2 ho2
    go_wp2_with fail
    go_ret
    exact ⟨_, rfl, HG1.out.trans HG2.out, own_base HO2.out HG1.out.size⟩

set_option maxRecDepth 100000 in
set_option maxHeartbeats 2000000 in
theorem inst_impl (s : ByteArray) (w : World) :
    Calls Tryz.prog 11 #[.string s] w (InsP (instA s) w) := by
  obtain ⟨i0, hi0, hz0, hz1, hz2⟩ := info_parts infoSt
  have H := Lib.hid (readc_any s w)
  unfold InsP
  cases hc : codeT s with
  | none =>
    have HC := Lib.hid hc
    have HA : Hid (instA s = []) := Lib.hid (by unfold instA; rw [hc])
    clear hc
    go_enter Tryz.func11, Tryz.ntmps11
    go_wp2_with fail
    refine H.out.mono ?_
    intro e w1 hp
    obtain ⟨hg, hp⟩ := hp
    rw [HC.out] at hp
    obtain rfl := hp
    have hx := Pr.new w1 59 (.slice none 0 0) .nilIface
    have x0 := hx.c0
    have HG := Lib.hid (hg.trans (World.grownBy_alloc w1 (.cells #[.slice none 0 0, .nilIface] 59) none))
    clear hg hx
    go_wp2_with fail
    go_loopw [5, 16] (fun o i wr => o = .slice none 0 0 ∧ i = .int .i64 0 ∧ Hid (w.grownBy wr none)) (fun _ _ _ => 0)
    case atStart => exact ⟨rfl, rfl, HG⟩
    case round =>
      obtain ⟨rfl, rfl, hgr⟩ := hrel
      go_wp2_with fail
      go_ret
      refine ⟨_, rfl, hgr.out, ?_⟩
      rw [HA.out]
      exact ⟨rfl, .inl ⟨rfl, rfl⟩⟩
  | some t =>
    have HC := Lib.hid hc
    have HA : Hid (instA s = cutB s) := Lib.hid (by unfold instA; rw [hc])
    have hran := codeT_ran hc
    have HLE := Lib.hid (show (cutB s).length ≤ 201 by have := cutB_len s; omega)
    have HIN : Hid (∀ x ∈ cutB s, itext x = x) := Lib.hid (by
      obtain ⟨m, hm⟩ := hran.2
      intro x hx
      obtain ⟨i, hi⟩ := runB_ins _ _ _ hm x hx
      exact itext_is hi)
    clear hc hran
    go_enter Tryz.func11, Tryz.ntmps11
    go_wp2_with fail
    refine H.out.mono ?_
    intro e w1 hp
    obtain ⟨hg, hp⟩ := hp
    rw [HC.out] at hp
    obtain ⟨iv, xv, rfl, h1, h2⟩ := hp
    obtain ⟨A1, k, c1, rfl⟩ := own_form h1
    obtain ⟨ty, pv, rfl⟩ := h2.iface
    obtain ⟨w2, hw2⟩ : ∃ z, w1.alloc (.cells #[.slice A1 k c1, .iface ty pv] 59) = z := ⟨_, rfl⟩
    have g2 : w1.grownBy w2 none := by rw [← hw2]; exact World.grownBy_alloc _ _ _
    have hx : Pr w2 w1.heap.size 59 (.slice A1 k c1) (.iface ty pv) := by rw [← hw2]; exact Pr.new _ _ _ _
    have x0 := hx.c0
    obtain ⟨hk, hkc, hrow⟩ := irow3 h1
    have HK := Lib.hid hk
    have hk2 : k ≤ 201 := by have := HLE.out; omega
    have HROW := Lib.hid hrow
    have HG1 := Lib.hid hg
    have HG2 := Lib.hid g2
    clear hg h1 h2 hk hrow g2 hx
    go_wp2_with fail
    go_loopw [5, 16] (fun o i wr => ∃ j : Nat, j ≤ k ∧ i = .int .i64 j ∧ Hid (wr.ownsRow w2.heap.size 9 1 o j (stV ((cutB s).take j))) ∧ Hid (w2.grownBy wr none)) (fun _ i _ => k - (intOf i).toNat)
    case atStart => exact ⟨0, Nat.zero_le _, rfl, Lib.hid ⟨rfl, .inl ⟨rfl, rfl⟩⟩, Lib.hid (gr_refl _ _)⟩
    case round =>
      obtain ⟨j0, hj, rfl, hown, hgr⟩ := hrel
      obtain ⟨A5, j, c5, rfl⟩ := own_form hown.out
      obtain rfl := own_len hown.out
      by_cases hlt : j < k
      · obtain ⟨g, rfl, hg1, hcell⟩ := HROW.out (by omega)
        obtain ⟨x, hx⟩ : ∃ x, (cutB s)[j]? = some x := ⟨_, List.getElem?_eq_getElem (by have := HK.out; omega)⟩
        obtain ⟨q0, q1, q2⟩ := hcell j x hx
        have hgw := HG2.out.trans hgr.out
        have c0 := hgw.cell q0 (by simp)
        have c1 := hgw.cell q1 (by simp)
        have c2 := hgw.cell q2 (by simp)
        have HTK := Lib.hid (take_snocH hx)
        have HXI := Lib.hid (HIN.out x (List.mem_of_getElem? hx))
        obtain ⟨kk, hkk⟩ : ∃ q, (ri3 x).1 = q := ⟨_, rfl⟩
        obtain ⟨sg, hsg⟩ : ∃ q, (ri3 x).2.1 = q := ⟨_, rfl⟩
        obtain ⟨vr, hvr⟩ : ∃ q, (ri3 x).2.2 = q := ⟨_, rfl⟩
        have HT := Lib.hid (fun u => instext_any x kk sg vr hkk hsg hvr u)
        rw [HXI.out] at HT
        rw [hkk] at c0
        rw [hsg] at c1
        rw [hvr] at c2
        have HLT := Lib.hid hown.out.1
        clear hcell q0 q1 q2 hx hkk hsg hvr hgw x0
        go_wp2_with fail
        refine (HT.out _).mono ?_
        rintro e w3 ⟨rfl, hg3⟩
        have hg3' := (World.grownBy_alloc wr (.cells #[.int .i64 kk, .int .u8 sg, .int .u8 vr] 66) none).trans hg3
        have hown2 := own_keep hown.out (fun b hb => hg3'.block b (hown.out.lt b hb).2 (by simp))
        have own1 := hown2.alloc (.cells #[.string x] 9)
        have HG3 := Lib.hid (hgr.out.trans hg3')
        have HSZ := Lib.hid HG3.out.size
        clear hg3 hg3' hown2 c0 c1 c2
        go_wp2_with (at_builtin; refine wpList_append_own_at _ rfl _ _ 27 rfl w2.heap.size 9 i0 (.string .empty) 1 16 Tryz.underlying27 hi0 hz0 hz1 hz2 rfl (by decide) _ _ _ rfl own1 ⟨w3.heap.size, 0, none⟩ 1 1 [.string x] rfl rfl ?a1 ?a2 ?a3 ?a4 ?a5 ?_)
        case a1 => exact cell_one_new _ _ _
        case a2 => simp [Value.oneCell']
        case a3 => simp only [maxLen]; omega
        case a4 => omega
        case a5 => have := HSZ.out; rw [World.size_alloc]; omega
        intro v8 w8 hown8 hg8 _ _
        have HO8 := Lib.hid hown8
        have HG9 := Lib.hid (gr_ownR (HG3.out.trans (World.grownBy_alloc w3 (.cells #[.string x] 9) none)) hg8 (fun b hb => (own1.lt b hb).1))
        obtain ⟨A8, k8, c8, rfl⟩ := own_form hown8
        clear hown8 hg8 own1
        go_wp2_with fail
        go_roundw
        case rel => exact ⟨j + 1, by omega, by go_num, Lib.hid (by rw [HTK.out, stV_snoc]; exact HO8.out), HG9⟩
        case measure => simp [intOf]; omega
      · have hjk : j = k := by omega
        have HJ := Lib.hid hjk
        clear hjk
        go_wp2_with fail
        go_ret
        refine ⟨_, rfl, HG1.out.trans (HG2.out.trans hgr.out), ?_⟩
        have h4 := hown.out
        have e1 : (cutB s).take j = cutB s := by rw [HJ.out, HK.out, List.take_length]
        rw [e1] at h4
        rw [HA.out]
        unfold OwnS
        rw [← HK.out, ← HJ.out]
        exact own_base h4 (Nat.le_trans HG1.out.size HG2.out.size)

theorem both_inst (s : ByteArray) (hs : s.size ≤ 1048576) : ∃ (ss : List ByteArray) (n : Nat), ss.length = n ∧ n ≤ 201 ∧ (∀ w, Calls Tryz.prog 21 #[.string s] w (InsP ss w)) ∧ (∀ w, Calls Tryz.prog 11 #[.string s] w (InsP ss w)) :=
  ⟨instA s, _, rfl, instA_len s, fun w => inst_spec s hs w, fun w => inst_impl s w⟩
end

/-! TDep -/
section
section
open Go.RowKit

/-- The set of signs "SM". -/
def sSM : ByteArray := ⟨#[83, 77]⟩
theorem sSM_is {c : Int} (h0 : 0 ≤ c) (h1 : c ≤ 255) : decide (0 ≤ Lib.indexByte sSM.data.toList c.toNat.toUInt8) = decide (c = 83 ∨ c = 77) :=
  all256 (P := fun c => decide (0 ≤ Lib.indexByte sSM.data.toList c.toNat.toUInt8) = decide (c = 83 ∨ c = 77)) (by decide +kernel) h0 h1

theorem ret_i {x y : Int} (h : x = y) : Ending.returned (.int .i64 x) = .returned (.int .i64 y) := by rw [h]

set_option maxRecDepth 100000 in
set_option maxHeartbeats 1000000 in
theorem dprefix_any (c d : Int) (w : World) (h0 : 0 ≤ c) (h1 : c ≤ 255) (hd : -1 ≤ d ∧ d ≤ 3) :
    Calls Tryz.prog 65 #[.int .u8 c, .int .i64 d] w fun e w' => e = .returned (.int .i64 (dOne c d)) ∧ w = w' := by
  have HO := Lib.hid (fun w => oneof_any sSM c _ (sSM_is h0 h1) w)
  have HD : Hid (∀ x, dOne c d = x ↔ dOne c d = x) := Lib.hid (fun _ => Iff.rfl)
  obtain ⟨b, hb⟩ : ∃ b, decide (c = 83 ∨ c = 77) = b := ⟨_, rfl⟩
  rw [hb] at HO
  unfold sSM at HO
  have w1 : IntKind.i64.wrap (d - 1) = d - 1 := IntWalk.i64_in _ (by omega)
  have HB := Lib.hid hb
  clear hb HD
  go_enter Tryz.func65, Tryz.ntmps65
  go_wp2_with fail
  refine (HO.out w).mono ?_
  rintro e w' ⟨rfl, rfl⟩
  cases b
  · have hb : ¬ (c = 83 ∨ c = 77) := by simpa using HB.out
    go_wp2_with fail
    all_goals
      go_ret
      refine ⟨ret_i ?_, rfl⟩
      try simp only [beq_iff_eq, beq_eq_false_iff_ne] at *
      unfold dOne
      rw [if_neg (fun h => hb h.1)]
      (repeat' split) <;> omega
  · have hb : c = 83 ∨ c = 77 := by simpa using HB.out
    go_wp2_with fail
    all_goals
      go_ret
      refine ⟨ret_i ?_, rfl⟩
      try simp only [beq_iff_eq, beq_eq_false_iff_ne] at *
      unfold dOne
      (repeat' split) <;> omega

set_option maxRecDepth 100000 in
set_option maxHeartbeats 1000000 in
theorem done_any (c d : Int) (w : World) (hd : -1 ≤ d ∧ d ≤ 3) :
    Calls Tryz.prog 105 #[.int .u8 c, .int .i64 d] w fun e w' => e = .returned (.int .i64 (dOne c d)) ∧ w = w' := by
  have w1 : IntKind.i64.wrap (d - 1) = d - 1 := IntWalk.i64_in _ (by omega)
  go_enter Tryz.func105, Tryz.ntmps105
  go_wp2_with fail
  all_goals
    go_ret
    refine ⟨ret_i ?_, rfl⟩
    try simp only [beq_iff_eq, beq_eq_false_iff_ne] at *
    unfold dOne
    (repeat' split) <;> omega

set_option maxRecDepth 100000 in
set_option maxHeartbeats 1000000 in
theorem dpair_any (c x y : Int) (w : World) :
    Calls Tryz.prog 66 #[.int .u8 c, .int .i64 x, .int .i64 y] w fun e w' => e = .returned (.int .i64 (dTwo c x y)) ∧ w = w' := by
  go_enter Tryz.func66, Tryz.ntmps66
  go_wp2_with fail
  all_goals
    go_ret
    refine ⟨ret_i ?_, rfl⟩
    try simp only [beq_iff_eq, beq_eq_false_iff_ne, bne_iff_ne, bne_eq_false_iff_eq, ne_eq] at *
    unfold dTwo
    (repeat' split) <;> omega

set_option maxRecDepth 100000 in
set_option maxHeartbeats 1000000 in
theorem dtwo_any (c x y : Int) (w : World) :
    Calls Tryz.prog 106 #[.int .u8 c, .int .i64 x, .int .i64 y] w fun e w' => e = .returned (.int .i64 (dTwo c x y)) ∧ w = w' := by
  go_enter Tryz.func106, Tryz.ntmps106
  go_wp2_with fail
  all_goals
    go_ret
    refine ⟨ret_i ?_, rfl⟩
    try simp only [beq_iff_eq, beq_eq_false_iff_ne] at *
    unfold dTwo
    (repeat' split) <;> omega

set_option maxRecDepth 100000 in
set_option maxHeartbeats 1000000 in
theorem dloop_any (c x y : Int) (w : World) (hc : c = 91 ∨ c = 123) (hy : -1 ≤ y ∧ y ≤ 3) :
    Calls Tryz.prog 67 #[.int .u8 c, .int .i64 x, .int .i64 y] w fun e w' => e = .returned (.int .i64 (dLoop c x y)) ∧ w = w' := by
  have w1 : IntKind.i64.wrap (y + 1) = y + 1 := IntWalk.i64_in _ (by omega)
  go_enter Tryz.func67, Tryz.ntmps67
  go_wp2_with fail
  all_goals
    go_ret
    refine ⟨ret_i ?_, rfl⟩
    try simp only [beq_iff_eq, beq_eq_false_iff_ne] at *
    unfold dLoop
    (repeat' split) <;> omega
end

section
open Go.RowKit Go.Maps

theorem vb {c : Int} (h : isV c = true) : 0 ≤ c ∧ c ≤ 255 := by
  unfold isV at h
  simp only [decide_eq_true_eq] at h
  omega
theorem lb {c : Int} (h : isL c = true) : 0 ≤ c ∧ c ≤ 255 := by
  unfold isL at h
  simp only [decide_eq_true_eq] at h
  omega
theorem pb {c : Int} (h : isP c = true) : 0 ≤ c ∧ c ≤ 255 := by
  unfold isP at h
  simp only [decide_eq_true_eq] at h
  omega

/-- What a map holds for a variable, as the lookup gives it. -/
theorem Reads.look {D : DataW Unit} {e : Int → Int} (h : Reads D e) {v c : Int} (h0 : 0 ≤ v) (h1 : v ≤ 255) (hc : D.atKey (.int .u8 v) (.lit (.int .i64 0)) = .lit (.int .i64 c)) :
    (Maps.has D (.int .u8 v) = false ∧ e v = -1) ∨ (Maps.has D (.int .u8 v) = true ∧ e v = c) := by
  refine (h.2 v h0 h1).imp id (fun ⟨a, b⟩ => ⟨a, ?_⟩)
  have := (b (.lit (.int .i64 0))).symm.trans hc
  cases this
  rfl

/-- What of answers at a term. -/
def DepP (x : Int) (w : World) (e : Ending) (w' : World) : Prop := e = .returned (.int .i64 x) ∧ w.grownBy w' none

set_option maxRecDepth 100000 in
set_option maxHeartbeats 2000000 in
theorem of_var (c : Int) (b m : Nat) (e : Int → Int) (w : World) (hv : isV c = true) (hm : VMap w b m e) :
    Calls Tryz.prog 41 #[.map (some b), .iface 64 (.int .u8 c)] w (DepP (e c) w) := by
  obtain ⟨D, ho, hr⟩ := hm
  have HR := Lib.hid (fun k h => hr.look (c := k) (vb hv).1 (vb hv).2 h)
  have hkey := keyV (vb hv).1 (vb hv).2
  have ht1 := fun xT u => ta_var_dig (.int .u8 c) xT u
  have ht2 := fun xT u => ta_var_var (.int .u8 c) xT u
  have ht3 := fun xT u => ta_var_pre (.int .u8 c) xT u
  have ht4 := fun xT u => ta_var_two (.int .u8 c) xT u
  have ht5 := fun xT u => ta_var_loop (.int .u8 c) xT u
  obtain ⟨hb, hhb⟩ : ∃ hb, Maps.has D (.int .u8 c) = hb := ⟨_, rfl⟩
  rw [hhb] at HR
  clear hr hv
  go_enter Tryz.func41, Tryz.ntmps41
  go_wp2_with (at_lookup; refine wpList_lookup_own_ok_int _ rfl _ _ 69 rfl 64 3 _ keyedV Tryz.underlying69 Tryz.underlying3 (zeroI _) b m D rfl ho _ _ rfl hkey ?_)
  intro k hk _
  have HK := Lib.hid (HR.out k hk)
  clear ho hk hkey hhb
  cases hb
  · go_wp2_with fail
    go_ret
    refine ⟨ret_i ?_, gr_refl _ _⟩
    rcases HK.out with ⟨_, h⟩ | ⟨h, _⟩
    · exact h.symm
    · cases h
  · go_wp2_with fail
    go_ret
    refine ⟨ret_i ?_, gr_refl _ _⟩
    rcases HK.out with ⟨h, _⟩ | ⟨_, h⟩
    · cases h
    · exact h.symm

set_option maxRecDepth 100000 in
set_option maxHeartbeats 2000000 in
theorem of_dig (c : Int) (v : Value) (w : World) :
    Calls Tryz.prog 41 #[v, .iface 114 (.int .u8 c)] w (DepP 0 w) := by
  have ht1 := fun xT u => ta_dig_dig (.int .u8 c) xT u
  go_enter Tryz.func41, Tryz.ntmps41
  go_wp2_with fail
  go_ret
  exact ⟨rfl, gr_refl _ _⟩

set_option maxRecDepth 100000 in
set_option maxHeartbeats 2000000 in
theorem of_pre (c d : Int) (b g : Nat) (x : Value) (w : World) (hc : isP c = true) (hd : -1 ≤ d ∧ d ≤ 3) (hh : w.heap[g]? = some (.cells #[.int .u8 c, x] 119 (0, 0)))
    (ih : ∀ u : World, w.grownBy u none → Calls Tryz.prog 41 #[.map (some b), x] u (DepP d u)) :
    Calls Tryz.prog 41 #[.map (some b), .iface 116 (.pointer (some ⟨g, 0, none⟩))] w (DepP (dOne c d) w) := by
  have ht1 := fun xT u => ta_pre_dig (.pointer (some ⟨g, 0, none⟩)) xT u
  have ht2 := fun xT u => ta_pre_var (.pointer (some ⟨g, 0, none⟩)) xT u
  have ht3 := fun xT u => ta_pre_pre (.pointer (some ⟨g, 0, none⟩)) xT u
  have HD := Lib.hid (fun w => dprefix_any c d w (pb hc).1 (pb hc).2 hd)
  generalize dOne c d = r at HD ⊢
  have c0 : w.cell? ⟨g, 0, none⟩ = some (.int .u8 c) := cell_of_row w g 0 _ _ (0, 0) hh
  have c1 : w.cell? ⟨g, 1, none⟩ = some x := cell_of_row w g 1 _ _ (0, 0) hh
  have HI := Lib.hid ih
  clear ih hh
  go_enter Tryz.func41, Tryz.ntmps41
  go_wp2_with fail
  go_region_law (first
    | (go_simp
       go_at_call 65
       refine (HD.out _).mono ?_
       rintro e wb ⟨rfl, rfl⟩
       have HDONE := Lib.hid True.intro)
    | (go_simp
       go_at_call 41
       refine (HI.out _ (gr_drewN w 1 none)).mono ?_
       rintro e wa ⟨rfl, hga⟩
       have HGa := Lib.hid ((gr_drewN w 1 none).trans hga)
       have c0a := HGa.out.cell c0 (by simp)
       clear hga))
  all_goals
    go_wp2_with fail
  all_goals
    go_ret
    exact ⟨rfl, HGa.out⟩
end
end

/-! TTerm -/
section
open Go.RowKit

theorem tmakeFunc_run (fn : Fn) (first cap : Array Value) (w : World) : (Instr.makeFunc fn first cap).run Tryz.prog w = .ok (.func fn first cap) w := rfl

theorem tcatch_fell (p q : Addr) (b : ByteArray) (x y : Value) (w : World) (hc : w.cell? p = some x) (hz : w.frozen? p = false) (hc2 : w.cell? q = some y) (hz2 : w.frozen? q = false) (hne : p.block ≠ q.block) :
    CallsD Tryz.prog 54 #[.pointer (some p), .pointer (some q)] (.panicking [{ v := .iface 9 (.string b), recovered := false }]) w fun e u' w' =>
      e = .returned (.tuple #[]) ∧ u' = .panicking [{ v := .iface 9 (.string b), recovered := true }] ∧ w' = (w.setCell p .nilIface).setCell q (.bool false) := by
  have hc3 : (w.setCell p .nilIface).cell? q = some y := (World.cell?_setCell_other w p q .nilIface (fun e => hne (by rw [e]))).trans hc2
  refine callsD_of_wpS Tryz.func54 rfl fun c₀ cs hu => ?_
  apply wpS_seq
  apply wpS_region
  simp [wpOpsS, go_sem, recoverD, hu, Tryz.ntmps54, Exit.thenS]
  refine wpS_cond (t := true) (by simp [Act.eval, Array.replicate]) ?_
  simp only [if_true]
  apply wpS_region
  simp [wpOpsS, go_sem, hc, hz, hc3, hz2, bodyPostS, results, Tryz.results54]

theorem tcatch_idle (p q : Addr) (w : World) :
    CallsD Tryz.prog 54 #[.pointer (some p), .pointer (some q)] .returning w fun e u' w' => e = .returned (.tuple #[]) ∧ u' = .returning ∧ w' = w := by
  refine callsD_of_wpS Tryz.func54 rfl fun c₀ cs hu => ?_
  apply wpS_seq
  apply wpS_region
  simp [wpOpsS, go_sem, recoverD, hu, Tryz.ntmps54, Exit.thenS]
  refine wpS_cond (t := false) (by simp [Act.eval, Array.replicate]) ?_
  simp only [Bool.false_eq_true, if_false]
  refine wpS_of_wp (wp_skip ?_)
  cases c₀
  simp_all [bodyPostS, results, Tryz.results54]

/-- How readTerm ends: without a term; with one. -/
def TermNo (w : World) (e : Ending) (w' : World) : Prop := e = .returned (.tuple #[.nilIface, .bool false]) ∧ w.grownBy w' none
def TermYes (t : Tm) (w : World) (e : Ending) (w' : World) : Prop :=
  ∃ v, e = .returned (.tuple #[v, .bool true]) ∧ w.grownBy w' none ∧ PT w' (fun b => w.heap.size ≤ b) t v
def TermPost (s : ByteArray) (w : World) (e : Ending) (w' : World) : Prop := match readT s with
  | some t => TermYes t w e w'
  | none => TermNo w e w'
theorem termPost_no {s : ByteArray} {w w' : World} {e : Ending} (hr : readT s = none) (he : e = .returned (.tuple #[.nilIface, .bool false])) (hg : w.grownBy w' none) : TermPost s w e w' := by
  unfold TermPost
  rw [hr]
  exact ⟨he, hg⟩
theorem termPost_yes {s : ByteArray} {t : Tm} {v : Value} {w w' : World} {e : Ending} (hr : readT s = some t) (he : e = .returned (.tuple #[v, .bool true])) (hg : w.grownBy w' none) (ha : PT w' (fun b => w.heap.size ≤ b) t v) : TermPost s w e w' := by
  unfold TermPost
  rw [hr]
  exact ⟨v, he, hg, ha⟩

set_option maxHeartbeats 400000 in
theorem term_out (s : ByteArray) (w : World) (h : 80 < s.size) :
    Calls Tryz.prog 31 #[.string s] w (TermPost s w) := by
  have hmf := tmakeFunc_run
  have HR := Lib.hid (readT_long h)
  go_enter_defers Tryz.func31, Tryz.ntmps31
  go_wp2_with fail
  all_goals
    refine leaves_cons (f := 54) (args := #[.pointer (some ⟨w.heap.size, 0, none⟩), .pointer (some ⟨w.heap.size + 1, 0, none⟩)]) (by simp) (by simp [go_sem]) ?_
    refine (tcatch_idle _ _ _).mono ?_
    rintro e u' w'' ⟨rfl, rfl, rfl⟩
    simp [Leaves, settle, results, Tryz.results31, go_sem]
    exact termPost_no HR.out rfl ((World.grownBy_alloc _ _ _).trans (World.grownBy_alloc _ _ _))

theorem tgr_set_new {w w1 : World} {g i : Nat} (h : w.grownBy w1 none) (hg : w.heap.size ≤ g) (u : Value) : w.grownBy (w1.setCell ⟨g, i, none⟩ u) none := gr_new h (gr_set w1 g i u) hg
theorem tfrozen_grown {w w' : World} {row : Option Nat} (h : w.grownBy w' row) {b i : Nat} (hb : b < w.heap.size) (hne : some b ≠ row) (hf : w.frozen? ⟨b, i, none⟩ = false) : w'.frozen? ⟨b, i, none⟩ = false :=
  (World.frozen?_of_block (w := w) (a := ⟨b, i, none⟩) (h.block b hb hne)).trans hf
theorem trd_new {w : World} {k : Nat} (s : ByteArray) (hk : w.heap.size = k) : TRd (w.alloc (.cells #[.string s, .int .i64 0] 84)) k s 0 := by
  subst hk
  exact heap_alloc_new _ _

theorem tcell_two (w : World) (x y : Value) (tx ty : TypeId) : ((w.alloc (.cells #[x] tx)).alloc (.cells #[y] ty)).cell? ⟨w.heap.size, 0, none⟩ = some x ∧ ((w.alloc (.cells #[x] tx)).alloc (.cells #[y] ty)).cell? ⟨w.heap.size + 1, 0, none⟩ = some y := by
  have e : (w.alloc (.cells #[x] tx)).heap.size = w.heap.size + 1 := by simp
  constructor
  · exact cell_of_row _ _ 0 _ _ (0, 0) ((Below.heap_alloc _ _ _ (by omega)).trans (heap_alloc_new _ _))
  · have h := cell_of_row _ _ 0 _ _ (0, 0) (heap_alloc_new (w.alloc (.cells #[x] tx)) (.cells #[y] ty))
    rw [e] at h
    exact h

/-- The blocks that readTerm makes first: the two results and the reader. -/
structure TThree (w w3 : World) : Prop where
  gr : w.grownBy w3 none
  size : w3.heap.size = w.heap.size + 3
  c0 : w3.cell? ⟨w.heap.size, 0, none⟩ = some .nilIface
  f0 : w3.frozen? ⟨w.heap.size, 0, none⟩ = false
  c1 : w3.cell? ⟨w.heap.size + 1, 0, none⟩ = some (.bool false)
  f1 : w3.frozen? ⟨w.heap.size + 1, 0, none⟩ = false
theorem tthree (w : World) (s : ByteArray) : TThree w (((w.alloc (.cells #[.nilIface] 40)).alloc (.cells #[.bool false] 4)).alloc (.cells #[.string s, .int .i64 0] 84)) := by
  have h := tcell_two w .nilIface (.bool false) 40 4
  refine ⟨(World.grownBy_alloc _ _ _).trans ((World.grownBy_alloc _ _ _).trans (World.grownBy_alloc _ _ _)), by simp, ?_, ?_, ?_, ?_⟩
  · rw [World.cell?_alloc_lt _ _ _ (by simp; omega)]; exact h.1
  · simp [go_sem]
  · rw [World.cell?_alloc_lt _ _ _ (by simp)]; exact h.2
  · simp [go_sem]

set_option maxHeartbeats 1000000 in
theorem term_in (s : ByteArray) (w : World) (hs : s.size ≤ 80) :
    Calls Tryz.prog 31 #[.string s] w (TermPost s w) := by
  have hmf := tmakeFunc_run
  go_enter_defers Tryz.func31, Tryz.ntmps31
  go_wp2_with fail
  clear hmf
  refine (tread_any _ s (by omega) (s.size + 1) 0 _ (by omega) (by omega) (trd_new s (by simp))).mono ?_
  have H3 := Lib.hid (tthree w s)
  generalize ((w.alloc (.cells #[.nilIface] 40)).alloc (.cells #[.bool false] 4)).alloc (.cells #[.string s, .int .i64 0] 84) = w3 at H3
  rintro e w4 ⟨hg4, ⟨t, q, v, hn, rfl, hr4, ha4⟩ | ⟨hn, b, rfl⟩⟩
  · have hs3 := H3.out.size
    have hc0 := hg4.cell H3.out.c0 (by simp; omega)
    have hf0 := tfrozen_grown hg4 (by omega) (by simp; omega) H3.out.f0
    have hc1 := hg4.cell H3.out.c1 (by simp)
    have hf1 := tfrozen_grown hg4 (by omega) (by simp) H3.out.f1
    have HG4 := Lib.hid hg4
    have HN := Lib.hid hn
    have HR4 := Lib.hid hr4
    have HA4 := Lib.hid ha4
    have hz4 := hg4.size
    have hqs := (tm_ge s _ _ t q hn).2.1
    obtain ⟨ty, pv, rfl⟩ := ha4.iface
    clear hg4 hn hr4 ha4
    go_wp2_with fail
    have HR5 := Lib.hid (HR4.out.grown (gr_set w4 w.heap.size 0 (.iface ty pv)) (by simp; omega))
    by_cases hend : q = s.size
    · refine (end_yes _ q s _ HR5.out (by omega)).mono ?_
      rintro e w6 ⟨rfl, n6, rfl⟩
      have HE := Lib.hid hend
      clear hend
      go_wp2_with fail
      refine leaves_cons (f := 54) (args := #[.pointer (some ⟨w.heap.size, 0, none⟩), .pointer (some ⟨w.heap.size + 1, 0, none⟩)]) (by simp) (by simp [go_sem]) ?_
      refine (tcatch_idle _ _ _).mono ?_
      rintro e u' w'' ⟨rfl, rfl, rfl⟩
      simp [Leaves, settle, results, Tryz.results31, go_sem, hc0, hc1]
      have hr : readT s = some t := by
        unfold readT
        rw [HN.out]
        exact if_pos ⟨HE.out, hs⟩
      have hg0 := gr_new H3.out.gr HG4.out (by omega)
      have hg1 : w.grownBy ((w4.setCell ⟨w.heap.size, 0, none⟩ (.iface ty pv)).drewN n6) none := (tgr_set_new hg0 (by omega) (.iface ty pv)).trans (gr_drewN _ n6 none)
      refine termPost_yes hr rfl (tgr_set_new (tgr_set_new hg1 (by omega) _) (by omega) _) (PT.keep ?_ ?_ t _ HA4.out)
      · intro b hb _
        rw [Below.heap_setCell _ _ _ _ (by simp; omega), Below.heap_setCell _ _ _ _ (by simp; omega)]
        exact Below.heap_setCell _ _ _ _ (by simp; omega)
      · intro b hb _
        omega
    · refine (end_no _ q s _ HR5.out (by omega)).mono ?_
      rintro e w6 ⟨⟨b, rfl⟩, hg6⟩
      have hr : readT s = none := by
        unfold readT
        rw [HN.out]
        exact if_neg (fun h => hend h.1)
      have HR := Lib.hid hr
      have hb0 : ((w4.setCell ⟨w.heap.size, 0, none⟩ (.iface ty pv)).cell? ⟨w.heap.size, 0, none⟩) = some (.iface ty pv) := by simp [go_sem, hc0]
      have hg5 := gr_set w4 w.heap.size 0 (.iface ty pv)
      have hb1 := hg5.cell hc1 (by simp)
      have hbf0 := (by simpa [go_sem] using hf0 : (w4.setCell ⟨w.heap.size, 0, none⟩ (.iface ty pv)).frozen? ⟨w.heap.size, 0, none⟩ = false)
      have hbf1 := tfrozen_grown hg5 (by omega) (by simp) hf1
      have hd0 := hg6.cell hb0 (by simp; omega)
      have hd1 := hg6.cell hb1 (by simp)
      have hdf0 := tfrozen_grown hg6 (by simp; omega) (by simp; omega) hbf0
      have hdf1 := tfrozen_grown hg6 (by simp; omega) (by simp) hbf1
      have HG := Lib.hid (gr_new (tgr_set_new (gr_new H3.out.gr HG4.out (by omega)) (by omega) (.iface ty pv)) hg6 (by omega))
      clear hr hb0 hg5 hb1 hbf0 hbf1 hg6 hc0 hc1 hf0 hf1
      refine leaves_cons (f := 54) (args := #[.pointer (some ⟨w.heap.size, 0, none⟩), .pointer (some ⟨w.heap.size + 1, 0, none⟩)]) (by simp) (by simp [go_sem]) ?_
      refine (tcatch_fell _ _ b _ _ _ hd0 hdf0 hd1 hdf1 (by simp)).mono ?_
      rintro e u' w'' ⟨rfl, rfl, rfl⟩
      simp [Leaves, settle, results, Tryz.results31, go_sem, hd0, hd1]
      exact termPost_no HR.out rfl (tgr_set_new (tgr_set_new HG.out (by omega) _) (by omega) _)
  · have hs3 := H3.out.size
    have hc0 := hg4.cell H3.out.c0 (by simp; omega)
    have hf0 := tfrozen_grown hg4 (by omega) (by simp; omega) H3.out.f0
    have hc1 := hg4.cell H3.out.c1 (by simp)
    have hf1 := tfrozen_grown hg4 (by omega) (by simp) H3.out.f1
    have hr : readT s = none := by unfold readT; rw [hn]
    have HR := Lib.hid hr
    have HG := Lib.hid (gr_new H3.out.gr hg4 (by omega))
    clear hr hn hg4
    refine leaves_cons (f := 54) (args := #[.pointer (some ⟨w.heap.size, 0, none⟩), .pointer (some ⟨w.heap.size + 1, 0, none⟩)]) (by simp) (by simp [go_sem]) ?_
    refine (tcatch_fell _ _ b _ _ _ hc0 hf0 hc1 hf1 (by simp)).mono ?_
    rintro e u' w'' ⟨rfl, rfl, rfl⟩
    simp [Leaves, settle, results, Tryz.results31, go_sem, hc0, hc1]
    exact termPost_no HR.out rfl (tgr_set_new (tgr_set_new HG.out (by omega) _) (by omega) _)

theorem term_any (s : ByteArray) (w : World) : Calls Tryz.prog 31 #[.string s] w (TermPost s w) := by
  rcases Nat.lt_or_ge 80 s.size with h | h
  · exact term_out s w h
  · exact term_in s w h
end

/-! TDepA -/
section
section
open Go.RowKit Go.Maps

set_option maxRecDepth 100000 in
set_option maxHeartbeats 4000000 in
theorem of_two (c d1 d2 : Int) (b g : Nat) (x y : Value) (w : World) (hh : w.heap[g]? = some (.cells #[.int .u8 c, x, y] 123 (0, 0)))
    (ih1 : ∀ u : World, w.grownBy u none → Calls Tryz.prog 41 #[.map (some b), x] u (DepP d1 u))
    (ih2 : ∀ u : World, w.grownBy u none → Calls Tryz.prog 41 #[.map (some b), y] u (DepP d2 u)) :
    Calls Tryz.prog 41 #[.map (some b), .iface 120 (.pointer (some ⟨g, 0, none⟩))] w (DepP (dTwo c d1 d2) w) := by
  have ht1 := fun xT u => ta_two_dig (.pointer (some ⟨g, 0, none⟩)) xT u
  have ht2 := fun xT u => ta_two_var (.pointer (some ⟨g, 0, none⟩)) xT u
  have ht3 := fun xT u => ta_two_pre (.pointer (some ⟨g, 0, none⟩)) xT u
  have ht4 := fun xT u => ta_two_two (.pointer (some ⟨g, 0, none⟩)) xT u
  have HD := Lib.hid (fun w => dpair_any c d1 d2 w)
  generalize dTwo c d1 d2 = r at HD ⊢
  have c0 : w.cell? ⟨g, 0, none⟩ = some (.int .u8 c) := cell_of_row w g 0 _ _ (0, 0) hh
  have c1 : w.cell? ⟨g, 1, none⟩ = some x := cell_of_row w g 1 _ _ (0, 0) hh
  have c2 : w.cell? ⟨g, 2, none⟩ = some y := cell_of_row w g 2 _ _ (0, 0) hh
  have HI1 := Lib.hid ih1
  have HI2 := Lib.hid ih2
  clear ih1 ih2 hh
  go_enter Tryz.func41, Tryz.ntmps41
  go_wp2_with fail
  go_region_law (first
    | (go_simp
       go_at_call 66
       refine (HD.out _).mono ?_
       rintro e wb ⟨rfl, rfl⟩
       have HDONE := Lib.hid True.intro)
    | (go_simp
       go_at_call 41
       refine (HI2.out _ HGa.out).mono ?_
       rintro e wc ⟨rfl, hgc⟩
       have HGc := Lib.hid (HGa.out.trans hgc)
       have c0c := HGc.out.cell c0 (by simp)
       clear hgc)
    | (go_simp
       go_at_call 41
       refine (HI1.out _ (gr_drewN w 1 none)).mono ?_
       rintro e wa ⟨rfl, hga⟩
       have HGa := Lib.hid ((gr_drewN w 1 none).trans hga)
       have c0a := HGa.out.cell c0 (by simp)
       have c2a := HGa.out.cell c2 (by simp)
       clear hga))
  all_goals
    go_wp2_with fail
  all_goals
    go_ret
    exact ⟨rfl, HGc.out⟩

set_option maxRecDepth 100000 in
set_option maxHeartbeats 4000000 in
theorem of_loop (c i d1 d2 : Int) (b m g : Nat) (en : Int → Int) (x y : Value) (w : World) (hc : c = 91 ∨ c = 123) (hi0 : 0 ≤ i) (hi1 : i ≤ 255) (hd1 : -1 ≤ d1 ∧ d1 ≤ 3) (hd2 : -1 ≤ d2 ∧ d2 ≤ 3) (hm : m ≤ 1000000) (hmap : VMap w b m en)
    (hh : w.heap[g]? = some (.cells #[.int .u8 c, .int .u8 i, x, y] 125 (0, 0)))
    (ih1 : ∀ u : World, w.grownBy u none → Calls Tryz.prog 41 #[.map (some b), x] u (DepP d1 u))
    (ih2 : 1 ≤ d1 → ∀ (u : World) (b' : Nat), w.grownBy u none → VMap u b' (m + 1) (upd en i (d1 - 1)) → Calls Tryz.prog 41 #[.map (some b'), y] u (DepP d2 u)) :
    Calls Tryz.prog 41 #[.map (some b), .iface 87 (.pointer (some ⟨g, 0, none⟩))] w (DepP (if 1 ≤ d1 then dLoop c d1 d2 else -1) w) := by
  have ht1 := fun xT u => ta_loop_dig (.pointer (some ⟨g, 0, none⟩)) xT u
  have ht2 := fun xT u => ta_loop_var (.pointer (some ⟨g, 0, none⟩)) xT u
  have ht3 := fun xT u => ta_loop_pre (.pointer (some ⟨g, 0, none⟩)) xT u
  have ht4 := fun xT u => ta_loop_two (.pointer (some ⟨g, 0, none⟩)) xT u
  have ht5 := fun xT u => ta_loop_loop (.pointer (some ⟨g, 0, none⟩)) xT u
  have HD := Lib.hid (fun w => dloop_any c d1 d2 w hc hd2)
  obtain ⟨r, hr⟩ : ∃ r, dLoop c d1 d2 = r := ⟨_, rfl⟩
  rw [hr] at HD ⊢
  have c0 : w.cell? ⟨g, 0, none⟩ = some (.int .u8 c) := cell_of_row w g 0 _ _ (0, 0) hh
  have c1 : w.cell? ⟨g, 1, none⟩ = some (.int .u8 i) := cell_of_row w g 1 _ _ (0, 0) hh
  have c2 : w.cell? ⟨g, 2, none⟩ = some x := cell_of_row w g 2 _ _ (0, 0) hh
  have C0 := Lib.hid c0
  have C3 := Lib.hid (show w.cell? ⟨g, 3, none⟩ = some y from cell_of_row w g 3 _ _ (0, 0) hh)
  have HI1 := Lib.hid ih1
  have HI2 := Lib.hid ih2
  have HM := Lib.hid hmap
  have w1 : IntKind.i64.wrap (d1 - 1) = d1 - 1 := IntWalk.i64_in _ (by omega)
  clear ih1 ih2 hh hr hc hmap
  by_cases h1 : 1 ≤ d1
  · have hn : ¬ (d1 < 1) := by omega
    rw [if_pos h1]
    go_enter Tryz.func41, Tryz.ntmps41
    go_wp2_with fail
    refine (HI1.out _ (gr_refl _ _)).mono ?_
    rintro e wa ⟨rfl, hga⟩
    have HGa := Lib.hid hga
    have c0a := HGa.out.cell c0 (by simp)
    have c1a := HGa.out.cell c1 (by simp)
    have c3a := HGa.out.cell C3.out (by simp)
    clear hga c0 c1 c2
    go_wp2_with fail
    go_region_law (first
      | (go_simp
         go_at_call 67
         refine (HD.out _).mono ?_
         rintro e wb ⟨rfl, rfl⟩
         have HDONE := Lib.hid True.intro)
      | (go_simp
         go_at_call 41
         refine (HI2.out h1 _ _ HGb.out HVb.out).mono ?_
         rintro e wc ⟨rfl, hgc⟩
         have HGc := Lib.hid (HGb.out.trans hgc)
         have c0c := HGc.out.cell C0.out (by simp)
         clear hgc)
      | (go_simp
         go_at_call 68
         refine (with_any b m en i (d1 - 1) _ hi0 hi1 (by omega) hm ((HM.out.grown HGa.out).grown (gr_drewN wa 1 none))).mono ?_
         rintro e wb ⟨b', rfl, hgb, hvb⟩
         have HGb := Lib.hid ((HGa.out.trans (gr_drewN wa 1 none)).trans hgb)
         have HVb := Lib.hid hvb
         have c0b := ((gr_drewN wa 1 none).trans hgb).cell c0a (by simp)
         have c3b := ((gr_drewN wa 1 none).trans hgb).cell c3a (by simp)
         clear hgb hvb))
    all_goals
      go_wp2_with fail
    all_goals
      go_ret
      exact ⟨rfl, HGc.out⟩
  · rw [if_neg h1]
    have hn : d1 < 1 := by omega
    go_enter Tryz.func41, Tryz.ntmps41
    go_wp2_with fail
    refine (HI1.out _ (gr_refl _ _)).mono ?_
    rintro e wa ⟨rfl, hga⟩
    have HGa := Lib.hid hga
    have c0a := HGa.out.cell c0 (by simp)
    have c1a := HGa.out.cell c1 (by simp)
    have c3a := HGa.out.cell C3.out (by simp)
    clear hga c0 c1 c2
    go_wp2_with fail
    go_ret
    exact ⟨rfl, HGa.out⟩
end

section
open Go.RowKit Go.Maps

theorem of_any : ∀ (n : Nat) (t : Tm) (S : Nat → Prop) (v : Value) (b m : Nat) (e : Int → Int) (w : World), t.size ≤ n → n + m ≤ 1000000 → t.Ok → (∀ c, -1 ≤ e c ∧ e c ≤ 3) → PT w S t v → VMap w b m e →
    Calls Tryz.prog 41 #[.map (some b), v] w (DepP (t.depth e) w)
  | 0, t, _, _, _, _, _, _, hn, _, _, _, _, _ => by have := t.size_pos; omega
  | n + 1, .dig c, S, v, b, m, e, w, hn, hb, ho, he, h, hm => by cases h; exact of_dig c _ w
  | n + 1, .var c, S, v, b, m, e, w, hn, hb, ho, he, h, hm => by cases h; exact of_var c b m e w ho hm
  | n + 1, .pre c s, S, v, b, m, e, w, hn, hb, ho, he, h, hm => by
    obtain ⟨g, x, rfl, _, hh, hx⟩ := h
    simp only [Tm.size] at hn
    exact of_pre c _ b g x w ho.1 (s.depth_bd e he) hh (fun u hu => of_any n s S x b m e u (by omega) (by omega) ho.2 he (hx.grown hu) (hm.grown hu))
  | n + 1, .two c s t, S, v, b, m, e, w, hn, hb, ho, he, h, hm => by
    obtain ⟨g, x, y, rfl, _, hh, hx, hy⟩ := h
    simp only [Tm.size] at hn
    exact of_two c _ _ b g x y w hh (fun u hu => of_any n s S x b m e u (by omega) (by omega) ho.2.1 he (hx.grown hu) (hm.grown hu))
      (fun u hu => of_any n t S y b m e u (by omega) (by omega) ho.2.2 he (hy.grown hu) (hm.grown hu))
  | n + 1, .loop c i s t, S, v, b, m, e, w, hn, hb, ho, he, h, hm => by
    obtain ⟨g, x, y, rfl, _, hh, hx, hy⟩ := h
    simp only [Tm.size] at hn
    have hd1 := s.depth_bd e he
    have hbu := upd_bd he i (d := if 1 ≤ s.depth e then s.depth e - 1 else 0) (by split <;> omega)
    have hd2 := t.depth_bd _ hbu
    by_cases h1 : 1 ≤ s.depth e
    · rw [if_pos h1] at hbu hd2
      exact of_loop c i _ _ b m g e x y w ho.1 (lb ho.2.1).1 (lb ho.2.1).2 hd1 hd2 (by omega) hm hh (fun u hu => of_any n s S x b m e u (by omega) (by omega) ho.2.2.1 he (hx.grown hu) (hm.grown hu))
        (fun _ u b' hu hm' => of_any n t S y b' (m + 1) _ u (by omega) (by omega) ho.2.2.2 hbu (hy.grown hu) hm')
    · have := of_loop c i (s.depth e) 0 b m g e x y w ho.1 (lb ho.2.1).1 (lb ho.2.1).2 hd1 (by omega) (by omega) hm hh (fun u hu => of_any n s S x b m e u (by omega) (by omega) ho.2.2.1 he (hx.grown hu) (hm.grown hu))
        (fun h => absurd h h1)
      rw [if_neg h1] at this
      simp only [Tm.depth]
      rw [if_neg h1]
      exact this

/-- The depth of a text. -/
def depthA (s : ByteArray) : Int := match readT s with
  | some t => t.depth env0
  | none => -1
theorem depthA_bd (s : ByteArray) : -1 ≤ depthA s ∧ depthA s ≤ 3 := by
  unfold depthA
  cases readT s with
  | none => simp
  | some t => exact t.depth_bd env0 env0_bd

set_option maxRecDepth 100000 in
set_option maxHeartbeats 2000000 in
theorem tdepth_impl (s : ByteArray) (w : World) :
    Calls Tryz.prog 15 #[.string s] w (DepP (depthA s) w) := by
  have H := Lib.hid (term_any s w)
  have hmm := @run_makeMap Tryz.prog
  obtain ⟨r, hb⟩ : ∃ b, depthA s = b := ⟨_, rfl⟩
  rw [hb]
  have HB := Lib.hid hb
  clear hb
  go_enter Tryz.func15, Tryz.ntmps15
  go_wp2_with fail
  refine H.out.mono ?_
  intro e w0 hp
  unfold TermPost at hp
  have hb := HB.out
  unfold depthA at hb
  cases hr : readT s with
  | none =>
    rw [hr] at hp hb
    subst hb
    obtain ⟨rfl, hg⟩ := hp
    have HG := Lib.hid hg
    clear hg hr
    go_wp2_with fail
    go_ret
    exact ⟨rfl, HG.out⟩
  | some t =>
    rw [hr] at hp hb
    obtain ⟨v, rfl, hg, hpt⟩ := hp
    have HG := Lib.hid hg
    have HP := Lib.hid hpt
    have HSS := Lib.hid hb
    have HRT := Lib.hid hr
    have own0 := World.ownsMap_made w0 Tryz.prog 64 (plainElem (H := Unit) Tryz.prog 3)
    obtain ⟨w1, hr1, own1, hg1⟩ := own0.update keyedV Tryz.underlying69 (by decide) (keyV (v := 97) (by decide) (by decide)) (plainElem_int Tryz.underlying3 (i64wf (d := 1) (by decide) (by decide)))
    obtain ⟨w2, hr2, own2, hg2⟩ := own1.update keyedV Tryz.underlying69 (by decide) (keyV (v := 98) (by decide) (by decide)) (plainElem_int Tryz.underlying3 (i64wf (d := 2) (by decide) (by decide)))
    have hgr : w0.grownBy w2 none := gr_new (gr_new (World.grownBy_alloc w0 _ none) hg1 (Nat.le_refl _)) hg2 (Nat.le_refl _)
    have hvm : VMap w2 w0.heap.size 2 env0 := ⟨_, own2, by
      have h0 : Reads (.map []) (fun _ => -1) := ⟨⟨_, rfl⟩, fun v _ _ => .inl ⟨rfl, rfl⟩⟩
      have := (h0.put 97 1).put 98 2
      rw [show env0 = upd (upd (fun _ => -1) 97 1) 98 2 from by
        funext c
        unfold env0 upd
        by_cases h1 : c = 97
        · subst h1; rfl
        · simp [h1]]
      exact this⟩
    have hok := readT_some hr
    have HC := Lib.hid (of_any 80 t _ v _ 2 env0 w2 hok.2.2.2 (by omega) hok.2.2.1 env0_bd (hpt.grown hgr) hvm)
    rw [show t.depth env0 = r from hb] at HC
    have HGR := Lib.hid (hg.trans hgr)
    clear hg hpt hr hb own0 own1 own2 hg1 hg2 hgr hvm hok
    go_wp2_with fail
    refine HC.out.mono ?_
    rintro e w3 ⟨rfl, hg3⟩
    have HG3 := Lib.hid hg3
    clear hg3
    go_wp2_with fail
    go_ret
    exact ⟨rfl, HGR.out.trans HG3.out⟩
end
end

/-! TDepB -/
section
section
open Go.RowKit

abbrev TE : TypeId := 162
def pve (P : List Int) : Array Value := (P.map (Value.int .i64)).toArray
theorem pve_size (P : List Int) : (pve P).size = P.length := by simp [pve]
theorem zeroE : (∀ w, (zeroValue TE).run Tryz.prog w = .ok (.agg (Array.replicate 256 (.int .i64 0))) w) ∧ (Tryz.prog.info? TE).map (·.size) = some 256 := zero_of_info (by kernel_rfl)
theorem underE : Tryz.prog.underlying TE = some (.array 256 3) := by kernel_rfl
theorem pve_zero : pve (List.replicate 256 0) = Array.replicate 256 (.int .i64 0) := by
  simp only [pve, List.map_replicate, List.toArray_replicate]

/-- A block that holds an array of 256 numbers. -/
def A256 (w : World) (g : Nat) (P : List Int) : Prop := w.heap[g]? = some (.cells (pve P) TE (0, 0)) ∧ P.length = 256
theorem A256.lt {w : World} {g : Nat} {P : List Int} (h : A256 w g P) : g < w.heap.size := (Array.getElem?_eq_some_iff.1 h.1).1
theorem A256.new (w : World) {P : List Int} (h : P.length = 256) : A256 (w.alloc (.cells (pve P) TE)) w.heap.size P := ⟨heap_alloc_last w _, h⟩
theorem A256.grown {w w' : World} {g : Nat} {P : List Int} {row : Option Nat} (h : A256 w g P) (hg : w.grownBy w' row) (hne : some g ≠ row) : A256 w' g P := ⟨(hg.block g h.lt hne).trans h.1, h.2⟩
theorem A256.own {w : World} {g : Nat} {P : List Int} (h : A256 w g P) : w.ownsRow 0 TE 1 (.slice (some ⟨g, 0, none⟩) 256 256) 256 (P.map (Value.int .i64)) :=
  ⟨by simp [h.2], .inr ⟨g, 256, pve P, rfl, Nat.zero_le _, h.1, Nat.le_refl _, by simp [maxLen], by rw [pve_size, h.2], by simp [pve]; rw [← h.2, ← List.length_map (f := Value.int .i64), List.take_length]⟩⟩
theorem A256.cell {w : World} {g : Nat} {P : List Int} (h : A256 w g P) {j : Nat} {x : Int} (hj : P[j]? = some x) : w.cell? ⟨g, j, none⟩ = some (.int .i64 x) := by
  have hl := (List.getElem?_eq_some_iff.1 hj).1
  have h1 := h.own.cellAt j (by have := h.2; omega)
  rw [h1, List.getElem?_map, hj]
  rfl
theorem A256.frozen {w : World} {g : Nat} {P : List Int} (h : A256 w g P) (j : Nat) : w.frozen? ⟨g, j, none⟩ = false := h.own.frozenAt j
theorem A256.set {w : World} {g : Nat} {P : List Int} (h : A256 w g P) (j : Nat) (x : Int) : A256 (w.setCell ⟨g, j, none⟩ (.int .i64 x)) g (P.set j x) ∧ w.grownBy (w.setCell ⟨g, j, none⟩ (.int .i64 x)) (some g) := by
  refine ⟨⟨?_, by rw [List.length_set]; exact h.2⟩, (h.own.stored j _).2⟩
  rw [heap_setCell_same w g j (pve P) TE (.int .i64 x) h.1]
  simp [pve, List.map_set]

/-- .. that says what depths variables have. -/
def EnvAt (w : World) (g : Nat) (e : Int → Int) : Prop := ∃ P, A256 w g P ∧ ∀ k : Nat, k < 256 → P[k]? = some (e (k : Int))
theorem EnvAt.lt {w : World} {g : Nat} {e : Int → Int} (h : EnvAt w g e) : g < w.heap.size := by
  obtain ⟨P, h1, _⟩ := h
  exact h1.lt
theorem EnvAt.grown {w w' : World} {g : Nat} {e : Int → Int} (h : EnvAt w g e) (hg : w.grownBy w' none) : EnvAt w' g e := by
  obtain ⟨P, h1, h2⟩ := h
  exact ⟨P, h1.grown hg (by simp), h2⟩
theorem EnvAt.cell {w : World} {g : Nat} {e : Int → Int} (h : EnvAt w g e) {k : Nat} (hk : k < 256) : w.cell? ⟨g, k, none⟩ = some (.int .i64 (e (k : Int))) := by
  obtain ⟨P, h1, h2⟩ := h
  exact h1.cell (h2 k hk)
theorem EnvAt.frozen {w : World} {g : Nat} {e : Int → Int} (h : EnvAt w g e) (k : Nat) : w.frozen? ⟨g, k, none⟩ = false := by
  obtain ⟨P, h1, _⟩ := h
  exact h1.frozen k
theorem EnvAt.set {w : World} {g : Nat} {e : Int → Int} (h : EnvAt w g e) (k : Nat) (d : Int) : EnvAt (w.setCell ⟨g, k, none⟩ (.int .i64 d)) g (upd e k d) ∧ w.grownBy (w.setCell ⟨g, k, none⟩ (.int .i64 d)) (some g) := by
  obtain ⟨P, h1, h2⟩ := h
  refine ⟨⟨_, (h1.set k d).1, fun j hj => ?_⟩, (h1.set k d).2⟩
  rw [List.getElem?_set]
  unfold upd
  by_cases hjk : k = j
  · subst hjk
    simp
    rw [h1.2]; exact hj
  · have : ¬ ((j : Int) = (k : Int)) := by omega
    rw [if_neg hjk, if_neg this]
    exact h2 j hj
theorem upd_back (e : Int → Int) (k d : Int) : upd (upd e k d) k (e k) = e := by
  funext c
  unfold upd
  by_cases h : c = k
  · rw [if_pos h, h]
  · rw [if_neg h, if_neg h]

set_option maxRecDepth 100000 in
set_option maxHeartbeats 2000000 in
theorem sstart_any (w : World) :
    Calls Tryz.prog 71 #[] w fun e w' => ∃ g, e = .returned (.pointer (some ⟨g, 0, none⟩)) ∧ w.heap.size ≤ g ∧ w.grownBy w' none ∧ EnvAt w' g env0 := by
  have hz : ∀ w, (zeroValue 162).run Tryz.prog w = .ok (.agg (Array.replicate 256 (.int .i64 0))) w := zeroE.1
  have HA0 := Lib.hid (by have := A256.new w (P := List.replicate 256 0) (by simp); rw [pve_zero] at this; exact this)
  have HG0 := Lib.hid (World.grownBy_alloc w (.cells (Array.replicate 256 (.int .i64 0)) TE) none)
  go_enter Tryz.func71, Tryz.ntmps71
  go_wp2_with fail
  go_loopw [5] (fun i wr => ∃ (j : Nat) (P : List Int), j ≤ 256 ∧ i = .int .i64 j ∧ Hid (A256 wr w.heap.size P) ∧ Hid (∀ k : Nat, k < j → P[k]? = some (-1)) ∧ Hid (w.grownBy wr none)) (fun i _ => 256 - (intOf i).toNat)
  case atStart => exact ⟨0, _, Nat.zero_le _, rfl, HA0, Lib.hid (fun k hk => by omega), HG0⟩
  case round =>
    obtain ⟨j, P, hj, rfl, ha, hp, hgr⟩ := hrel
    have hfr := ha.out.frozen
    by_cases hlt : j < 256
    · have hpl := ha.out.2
      obtain ⟨x, hx⟩ : ∃ x, P[j]? = some x := ⟨_, List.getElem?_eq_getElem (by omega)⟩
      have hcell := ha.out.cell hx
      have hset := ha.out.set j (-1)
      have HST := Lib.hid hset
      have HP2 : Hid (∀ k : Nat, k < j + 1 → (P.set j (-1))[k]? = some (-1)) := Lib.hid (fun k hk => by
        rw [List.getElem?_set]
        by_cases hjk : j = k
        · rw [if_pos hjk, if_pos (by rw [hpl]; exact hlt)]
        · rw [if_neg hjk]; exact hp.out k (by omega))
      clear hset hx hpl
      go_wp2_with fail
      go_roundw
      case rel => exact ⟨j + 1, _, by omega, by go_num, Lib.hid HST.out.1, HP2, Lib.hid (gr_new hgr.out HST.out.2 (Nat.le_refl _))⟩
      case measure => simp [intOf]; omega
    · obtain rfl : j = 256 := by omega
      have he : EnvAt wr w.heap.size (fun _ => -1) := ⟨P, ha.out, hp.out⟩
      have h1 := he.set 97 1
      have h2 := h1.1.set 98 2
      have HE1 := Lib.hid h1
      have HE2 := Lib.hid h2
      have c97 := he.cell (k := 97) (by omega)
      have c98 := h1.1.cell (k := 98) (by omega)
      have f98 := h1.1.frozen 98
      have hfr97 := he.frozen 97
      clear h1 h2 he
      go_wp2_with fail
      go_ret
      refine ⟨_, rfl, Nat.le_refl _, gr_new (gr_new hgr.out HE1.out.2 (Nat.le_refl _)) HE2.out.2 (Nat.le_refl _), ?_⟩
      have := HE2.out.1
      rw [show env0 = upd (upd (fun _ => -1) ((97 : Nat) : Int) 1) ((98 : Nat) : Int) 2 from by
        funext c
        unfold env0 upd
        by_cases h1 : c = 97
        · subst h1; rfl
        · simp [h1]]
      exact this
end

section
open Go.RowKit

/-- How it ends: with the depth; the array says what it said; nothing else has turned. -/
def SDP (x : Int) (g : Nat) (en : Int → Int) (w : World) (e : Ending) (w' : World) : Prop := e = .returned (.int .i64 x) ∧ w.grownBy w' (some g) ∧ EnvAt w' g en

theorem gr_some {w w' : World} (g : Nat) (h : w.grownBy w' none) : w.grownBy w' (some g) := ⟨h.os, h.tape, h.output, h.size, fun k hk _ => h.block k hk (by simp)⟩

set_option maxRecDepth 100000 in
set_option maxHeartbeats 1000000 in
theorem sdep_dig (b : Int) (A : Option Addr) (c g : Nat) (en : Int → Int) (w : World) (he : EnvAt w g en) :
    Calls Tryz.prog 72 #[.pointer (some ⟨g, 0, none⟩), .agg #[.int .u8 48, .int .u8 b, .slice A 0 c]] w (SDP 0 g en w) := by
  have HX := Lib.hid (c3_new w (.int .u8 48) (.int .u8 b) (.slice A 0 c) 52)
  have x0 := HX.out.c0
  have x2 := HX.out.c2
  have HE := Lib.hid he
  clear he
  go_enter Tryz.func72, Tryz.ntmps72
  go_wp2_with fail
  go_ret
  exact ⟨rfl, gr_some g (World.grownBy_alloc _ _ _), HE.out.grown (World.grownBy_alloc _ _ _)⟩

set_option maxRecDepth 100000 in
set_option maxHeartbeats 1000000 in
theorem sdep_var (k : Nat) (hk : k < 256) (A : Option Addr) (c g : Nat) (en : Int → Int) (w : World) (he : EnvAt w g en) :
    Calls Tryz.prog 72 #[.pointer (some ⟨g, 0, none⟩), .agg #[.int .u8 97, .int .u8 (k : Int), .slice A 0 c]] w (SDP (en k) g en w) := by
  have HX := Lib.hid (c3_new w (.int .u8 97) (.int .u8 (k : Int)) (.slice A 0 c) 52)
  have x0 := HX.out.c0
  have x1 := HX.out.c1
  have x2 := HX.out.c2
  have HG := Lib.hid (World.grownBy_alloc w (.cells #[.int .u8 97, .int .u8 (k : Int), .slice A 0 c] 52) none)
  have HE := Lib.hid (he.grown HG.out)
  have hcell := HE.out.cell hk
  generalize en (k : Int) = r at hcell ⊢
  clear he
  go_enter Tryz.func72, Tryz.ntmps72
  go_wp2_with fail
  go_quiet (fail)
  go_wp2_with fail
  go_ret
  exact ⟨rfl, (gr_some g HG.out).trans (gr_drewN _ _ _), HE.out.grown (gr_drewN _ _ _)⟩

set_option maxRecDepth 100000 in
set_option maxHeartbeats 2000000 in
theorem sdep_pre (a d a2 b2 : Int) (A A2 : Option Addr) (c k2 c2 g : Nat) (en : Int → Int) (w : World) (hd : -1 ≤ d ∧ d ≤ 3) (he : EnvAt w g en)
    (ho : w.ownsRow 0 52 3 (.slice A 1 c) 1 (flat3 [(a2, b2, .slice A2 k2 c2)]))
    (ih : ∀ u : World, w.grownBy u (some g) → EnvAt u g en → Calls Tryz.prog 72 #[.pointer (some ⟨g, 0, none⟩), .agg #[.int .u8 a2, .int .u8 b2, .slice A2 k2 c2]] u (SDP d g en u)) :
    Calls Tryz.prog 72 #[.pointer (some ⟨g, 0, none⟩), .agg #[.int .u8 a, .int .u8 0, .slice A 1 c]] w (SDP (dOne a d) g en w) := by
  obtain ⟨-, -, hrow⟩ := srow3 (xs := [(a2, b2, .slice A2 k2 c2)]) ho
  obtain ⟨gr, rfl, hgr1, hcell⟩ := hrow (by omega)
  obtain ⟨q0, q1, q2⟩ := hcell 0 _ rfl
  simp only [Nat.zero_mul, Nat.zero_add] at q0 q1 q2
  have HX := Lib.hid (c3_new w (.int .u8 a) (.int .u8 0) (.slice (some ⟨gr, 0, none⟩) 1 c) 52)
  have x0 := HX.out.c0
  have x2 := HX.out.c2
  have HG := Lib.hid (World.grownBy_alloc w (.cells #[.int .u8 a, .int .u8 0, .slice (some ⟨gr, 0, none⟩) 1 c] 52) none)
  have h0 := HG.out.cell q0 (by simp)
  have h1 := HG.out.cell q1 (by simp)
  have h2 := HG.out.cell q2 (by simp)
  have HE := Lib.hid (he.grown HG.out)
  have hlt : g < w.heap.size := he.lt
  have HD := Lib.hid (fun w => done_any a d w hd)
  generalize dOne a d = r at HD ⊢
  have HC := Lib.hid ih
  clear hcell hrow ho ih q0 q1 q2 he
  go_enter Tryz.func72, Tryz.ntmps72
  go_wp2_with fail
  go_region_law (first
    | (go_simp
       go_at_call 105
       refine (HD.out _).mono ?_
       rintro e wb ⟨rfl, rfl⟩
       have HDONE := Lib.hid True.intro)
    | (go_simp
       go_at_call 72
       refine (HC.out _ ((gr_some g HG.out).trans (gr_drewN _ 1 _)) (HE.out.grown (gr_drewN _ 1 _))).mono ?_
       rintro e wa ⟨rfl, hga, hea⟩
       have HGa := Lib.hid ((gr_drewN (w.alloc (.cells #[.int .u8 a, .int .u8 0, .slice (some ⟨gr, 0, none⟩) 1 c] 52)) 1 (some g)).trans hga)
       have HEa := Lib.hid hea
       have x0a := HGa.out.cell x0 (by simp; omega)
       clear hga hea))
  all_goals
    go_wp2_with fail
  all_goals
    go_ret
    exact ⟨rfl, (gr_some g HG.out).trans HGa.out, HEa.out⟩

set_option maxRecDepth 100000 in
set_option maxHeartbeats 2000000 in
theorem sdep_two (a d1 d2 a2 b2 a3 b3 : Int) (A A2 A3 : Option Addr) (c k2 c2 k3 c3 g : Nat) (en : Int → Int) (w : World) (he : EnvAt w g en)
    (hne : ∀ x, (Value.slice A 2 c).ownBlock = some x → x ≠ g)
    (ho : w.ownsRow 0 52 3 (.slice A 2 c) 2 (flat3 [(a2, b2, .slice A2 k2 c2), (a3, b3, .slice A3 k3 c3)]))
    (ih1 : ∀ u : World, w.grownBy u (some g) → EnvAt u g en → Calls Tryz.prog 72 #[.pointer (some ⟨g, 0, none⟩), .agg #[.int .u8 a2, .int .u8 b2, .slice A2 k2 c2]] u (SDP d1 g en u))
    (ih2 : ∀ u : World, w.grownBy u (some g) → EnvAt u g en → Calls Tryz.prog 72 #[.pointer (some ⟨g, 0, none⟩), .agg #[.int .u8 a3, .int .u8 b3, .slice A3 k3 c3]] u (SDP d2 g en u)) :
    Calls Tryz.prog 72 #[.pointer (some ⟨g, 0, none⟩), .agg #[.int .u8 a, .int .u8 0, .slice A 2 c]] w (SDP (dTwo a d1 d2) g en w) := by
  obtain ⟨-, -, hrow⟩ := srow3 (xs := [(a2, b2, .slice A2 k2 c2), (a3, b3, .slice A3 k3 c3)]) ho
  obtain ⟨gr, rfl, hgr1, hcell⟩ := hrow (by omega)
  obtain ⟨q0, q1, q2⟩ := hcell 0 _ rfl
  obtain ⟨q3, q4, q5⟩ := hcell 1 _ rfl
  simp only [Nat.zero_mul, Nat.zero_add, Nat.one_mul] at q0 q1 q2 q3 q4 q5
  have HX := Lib.hid (c3_new w (.int .u8 a) (.int .u8 0) (.slice (some ⟨gr, 0, none⟩) 2 c) 52)
  have x0 := HX.out.c0
  have x1 := HX.out.c1
  have x2 := HX.out.c2
  have HG := Lib.hid (World.grownBy_alloc w (.cells #[.int .u8 a, .int .u8 0, .slice (some ⟨gr, 0, none⟩) 2 c] 52) none)
  have h0 := HG.out.cell q0 (by simp)
  have h1 := HG.out.cell q1 (by simp)
  have h2 := HG.out.cell q2 (by simp)
  have h3 := HG.out.cell q3 (by simp)
  have h4 := HG.out.cell q4 (by simp)
  have h5 := HG.out.cell q5 (by simp)
  have HE := Lib.hid (he.grown HG.out)
  have hlt : g < w.heap.size := he.lt
  have hneg : gr ≠ g := hne gr rfl
  have HD := Lib.hid (fun w => dtwo_any a d1 d2 w)
  generalize dTwo a d1 d2 = r at HD ⊢
  have HC1 := Lib.hid ih1
  have HC2 := Lib.hid ih2
  clear hcell hrow ho ih1 ih2 q0 q1 q2 q3 q4 q5 he hne
  go_enter Tryz.func72, Tryz.ntmps72
  go_wp2_with fail
  refine (HC1.out _ (gr_some g HG.out) HE.out).mono ?_
  rintro e w1 ⟨rfl, hg1, he1⟩
  have HG1 := Lib.hid hg1
  have HE1 := Lib.hid he1
  have y0 := hg1.cell x0 (by simp; omega)
  have y1 := hg1.cell x1 (by simp; omega)
  have y2 := hg1.cell x2 (by simp; omega)
  have z3 := hg1.cell h3 (by simp; exact hneg)
  have z4 := hg1.cell h4 (by simp; exact hneg)
  have z5 := hg1.cell h5 (by simp; exact hneg)
  have HGG := Lib.hid ((gr_some g HG.out).trans hg1)
  clear hg1 he1 x0 x1 x2 h0 h1 h2 h3 h4 h5
  go_wp2_with fail
  go_region_law (first
    | (go_simp
       go_at_call 106
       refine (HD.out _).mono ?_
       rintro e wb ⟨rfl, rfl⟩
       have HDONE := Lib.hid True.intro)
    | (go_simp
       go_at_call 72
       refine (HC2.out _ (HGG.out.trans (gr_drewN w1 1 _)) (HE1.out.grown (gr_drewN w1 1 _))).mono ?_
       rintro e wa ⟨rfl, hga, hea⟩
       have HGa := Lib.hid ((gr_drewN w1 1 (some g)).trans hga)
       have HEa := Lib.hid hea
       have x0a := HGa.out.cell y0 (by simp; omega)
       clear hga hea))
  all_goals
    go_wp2_with fail
  all_goals
    go_ret
    exact ⟨rfl, HGG.out.trans HGa.out, HEa.out⟩
end

section
open Go.RowKit

set_option maxRecDepth 100000 in
set_option maxHeartbeats 2000000 in
theorem sdep_loop0 (a d1 a2 b2 a3 b3 : Int) (k : Nat) (A A2 A3 : Option Addr) (c k2 c2 k3 c3 g : Nat) (en : Int → Int) (w : World) (hk0 : 0 < k) (hd : d1 < 1) (he : EnvAt w g en)
    (hne : ∀ x, (Value.slice A 2 c).ownBlock = some x → x ≠ g)
    (ho : w.ownsRow 0 52 3 (.slice A 2 c) 2 (flat3 [(a2, b2, .slice A2 k2 c2), (a3, b3, .slice A3 k3 c3)]))
    (ih1 : ∀ u : World, w.grownBy u (some g) → EnvAt u g en → Calls Tryz.prog 72 #[.pointer (some ⟨g, 0, none⟩), .agg #[.int .u8 a2, .int .u8 b2, .slice A2 k2 c2]] u (SDP d1 g en u)) :
    Calls Tryz.prog 72 #[.pointer (some ⟨g, 0, none⟩), .agg #[.int .u8 a, .int .u8 (k : Int), .slice A 2 c]] w (SDP (-1) g en w) := by
  obtain ⟨-, -, hrow⟩ := srow3 (xs := [(a2, b2, .slice A2 k2 c2), (a3, b3, .slice A3 k3 c3)]) ho
  obtain ⟨gr, rfl, hgr1, hcell⟩ := hrow (by omega)
  obtain ⟨q0, q1, q2⟩ := hcell 0 _ rfl
  simp only [Nat.zero_mul, Nat.zero_add] at q0 q1 q2
  have HX := Lib.hid (c3_new w (.int .u8 a) (.int .u8 (k : Int)) (.slice (some ⟨gr, 0, none⟩) 2 c) 52)
  have x0 := HX.out.c0
  have x1 := HX.out.c1
  have x2 := HX.out.c2
  have HG := Lib.hid (World.grownBy_alloc w (.cells #[.int .u8 a, .int .u8 (k : Int), .slice (some ⟨gr, 0, none⟩) 2 c] 52) none)
  have h0 := HG.out.cell q0 (by simp)
  have h1 := HG.out.cell q1 (by simp)
  have h2 := HG.out.cell q2 (by simp)
  have HE := Lib.hid (he.grown HG.out)
  have hlt : g < w.heap.size := he.lt
  have hkz : ((k : Int) == 0) = false := by rw [beq_eq_false_iff_ne]; omega
  have HC1 := Lib.hid ih1
  clear hcell hrow ho ih1 q0 q1 q2 he hne
  go_enter Tryz.func72, Tryz.ntmps72
  go_wp2_with fail
  refine (HC1.out _ (gr_some g HG.out) HE.out).mono ?_
  rintro e w1 ⟨rfl, hg1, he1⟩
  have HG1 := Lib.hid hg1
  have HE1 := Lib.hid he1
  have y1 := hg1.cell x1 (by simp; omega)
  have HGG := Lib.hid ((gr_some g HG.out).trans hg1)
  clear hg1 he1 x0 x1 x2 h0 h1 h2
  go_wp2_with fail
  go_ret
  exact ⟨rfl, HGG.out, HE1.out⟩

set_option maxRecDepth 100000 in
set_option maxHeartbeats 4000000 in
theorem sdep_loop1 (a d1 d2 a2 b2 a3 b3 : Int) (k : Nat) (A A2 A3 : Option Addr) (c k2 c2 k3 c3 g : Nat) (en : Int → Int) (w : World) (ha : a = 91 ∨ a = 123) (hk0 : 0 < k) (hk : k < 256) (hd : 1 ≤ d1) (hd1 : d1 ≤ 3) (hd2 : -1 ≤ d2 ∧ d2 ≤ 3) (he : EnvAt w g en)
    (hne : ∀ x, (Value.slice A 2 c).ownBlock = some x → x ≠ g)
    (ho : w.ownsRow 0 52 3 (.slice A 2 c) 2 (flat3 [(a2, b2, .slice A2 k2 c2), (a3, b3, .slice A3 k3 c3)]))
    (ih1 : ∀ u : World, w.grownBy u (some g) → EnvAt u g en → Calls Tryz.prog 72 #[.pointer (some ⟨g, 0, none⟩), .agg #[.int .u8 a2, .int .u8 b2, .slice A2 k2 c2]] u (SDP d1 g en u))
    (ih2 : ∀ u : World, w.grownBy u (some g) → EnvAt u g (upd en k (d1 - 1)) → Calls Tryz.prog 72 #[.pointer (some ⟨g, 0, none⟩), .agg #[.int .u8 a3, .int .u8 b3, .slice A3 k3 c3]] u (SDP d2 g (upd en k (d1 - 1)) u)) :
    Calls Tryz.prog 72 #[.pointer (some ⟨g, 0, none⟩), .agg #[.int .u8 a, .int .u8 (k : Int), .slice A 2 c]] w (SDP (dLoop a d1 d2) g en w) := by
  obtain ⟨-, -, hrow⟩ := srow3 (xs := [(a2, b2, .slice A2 k2 c2), (a3, b3, .slice A3 k3 c3)]) ho
  obtain ⟨gr, rfl, hgr1, hcell⟩ := hrow (by omega)
  obtain ⟨q0, q1, q2⟩ := hcell 0 _ rfl
  obtain ⟨q3, q4, q5⟩ := hcell 1 _ rfl
  simp only [Nat.zero_mul, Nat.zero_add, Nat.one_mul] at q0 q1 q2 q3 q4 q5
  have HX := Lib.hid (c3_new w (.int .u8 a) (.int .u8 (k : Int)) (.slice (some ⟨gr, 0, none⟩) 2 c) 52)
  have x0 := HX.out.c0
  have x1 := HX.out.c1
  have x2 := HX.out.c2
  have HG := Lib.hid (World.grownBy_alloc w (.cells #[.int .u8 a, .int .u8 (k : Int), .slice (some ⟨gr, 0, none⟩) 2 c] 52) none)
  have h0 := HG.out.cell q0 (by simp)
  have h1 := HG.out.cell q1 (by simp)
  have h2 := HG.out.cell q2 (by simp)
  have h3 := HG.out.cell q3 (by simp)
  have h4 := HG.out.cell q4 (by simp)
  have h5 := HG.out.cell q5 (by simp)
  have HE := Lib.hid (he.grown HG.out)
  have hlt : g < w.heap.size := he.lt
  have hneg : gr ≠ g := hne gr rfl
  have hkz : ((k : Int) == 0) = false := by rw [beq_eq_false_iff_ne]; omega
  have hd0 : ¬ (d1 < 1) := by omega
  have wr1 : IntKind.i64.wrap (d1 - 1) = d1 - 1 := IntWalk.i64_in _ (by omega)
  have wr2 : IntKind.i64.wrap (d2 + 1) = d2 + 1 := IntWalk.i64_in _ (by omega)
  have HC1 := Lib.hid ih1
  have HC2 := Lib.hid ih2
  have HA := Lib.hid ha
  clear hcell hrow ho ih1 ih2 q0 q1 q2 q3 q4 q5 he hne ha
  go_enter Tryz.func72, Tryz.ntmps72
  go_wp2_with fail
  refine (HC1.out _ (gr_some g HG.out) HE.out).mono ?_
  rintro e w1 ⟨rfl, hg1, he1⟩
  have HE1 := Lib.hid he1
  have y0 := hg1.cell x0 (by simp; omega)
  have y1 := hg1.cell x1 (by simp; omega)
  have y2 := hg1.cell x2 (by simp; omega)
  have z3 := hg1.cell h3 (by simp; exact hneg)
  have z4 := hg1.cell h4 (by simp; exact hneg)
  have z5 := hg1.cell h5 (by simp; exact hneg)
  have HGG := Lib.hid ((gr_some g HG.out).trans hg1)
  have hold := he1.cell hk
  have hfr := he1.frozen k
  obtain ⟨old, hO⟩ : ∃ o, en (k : Int) = o := ⟨_, rfl⟩
  rw [hO] at hold
  have HO := Lib.hid hO
  have HB : Hid (w.heap.size ≠ g) := Lib.hid (by omega)
  have HR : Hid (gr ≠ g) := Lib.hid hneg
  clear hg1 he1 x0 x1 x2 h0 h1 h2 h3 h4 h5 hO
  go_wp2_with fail
  go_quiet (fail)
  go_wp2_with fail
  go_region
  go_wp2_with fail
  have HS := Lib.hid ((HE1.out.grown (gr_drewN w1 (nq + 1) none)).set k (d1 - 1))
  refine (HC2.out _ ((HGG.out.trans (gr_drewN w1 (nq + 1) _)).trans HS.out.2) HS.out.1).mono ?_
  rintro e w2 ⟨rfl, hg2, he2⟩
  have hch := ((gr_drewN w1 (nq + 1) (some g)).trans HS.out.2).trans hg2
  have HG2 := Lib.hid (HGG.out.trans hch)
  have v0 := hch.cell y0 (by simp; exact HB.out)
  have v1 := hch.cell y1 (by simp; exact HB.out)
  have hcell2 := he2.cell hk
  have hfr2 := he2.frozen k
  obtain ⟨mid, hM⟩ : ∃ o, upd en (k : Int) (d1 - 1) (k : Int) = o := ⟨_, rfl⟩
  rw [hM] at hcell2
  have HE2 := Lib.hid he2
  clear hg2 he2 hch hM y0 y1 y2 z3 z4 z5 hold hfr
  go_wp2_with fail
  go_region
  have HS2 := Lib.hid ((HE2.out.grown (gr_drewN w2 1 none)).set k old)
  have HEND : Hid (w.grownBy ((w2.drewN 1).setCell ⟨g, k, none⟩ (.int .i64 old)) (some g) ∧ EnvAt ((w2.drewN 1).setCell ⟨g, k, none⟩ (.int .i64 old)) g en) := Lib.hid ⟨(HG2.out.trans (gr_drewN w2 1 _)).trans HS2.out.2, by
    have := HS2.out.1
    rw [show upd (upd en (k : Int) (d1 - 1)) (k : Int) old = en from by rw [← HO.out]; exact upd_back en _ _] at this
    exact this⟩
  clear HS HS2 HE2 HG2
  rcases HA.out with rfl | rfl
  · go_wp2_with fail
    all_goals
      go_ret
      refine ⟨ret_i ?_, HEND.out.1, HEND.out.2⟩
      unfold dLoop
      (repeat' split) <;> omega
  · go_wp2_with fail
    all_goals
      go_ret
      refine ⟨ret_i ?_, HEND.out.1, HEND.out.2⟩
      try simp only [bne_iff_ne, bne_eq_false_iff_eq, ne_eq] at *
      unfold dLoop
      (repeat' split) <;> omega
end

section
open Go.RowKit

theorem SN.grownG {w w' : World} {S : Nat → Prop} {t : Tm} {x : Int × Int × Value} {g : Nat} (h : SN w S t x) (hS : ∀ b, S b → b ≠ g) (hg : w.grownBy w' (some g)) : SN w' S t x :=
  h.keep (fun b hb hl => hg.block b hl (by simp; exact hS b hb)) (fun _ hb _ => hb) t x

theorem slice_form {w : World} {e : TypeId} {size n : Nat} {sv : Value} {xs : List Value} (h : w.ownsRow 0 e size sv n xs) : ∃ A c, sv = .slice A n c := by
  obtain ⟨A, m, c, rfl⟩ := own_form h
  exact ⟨A, c, by rw [own_len h]⟩

set_option maxRecDepth 100000 in
theorem sdep_any : ∀ (n : Nat) (t : Tm) (S : Nat → Prop) (x : Int × Int × Value) (g : Nat) (en : Int → Int) (w : World), t.size ≤ n → t.Ok → (∀ c, -1 ≤ en c ∧ en c ≤ 3) → SN w S t x → (∀ b, S b → b ≠ g) → EnvAt w g en →
    Calls Tryz.prog 72 #[.pointer (some ⟨g, 0, none⟩), .agg #[.int .u8 x.1, .int .u8 x.2.1, x.2.2]] w (SDP (t.depth en) g en w)
  | 0, t, _, _, _, _, _, hn, _, _, _, _, _ => by have := t.size_pos; omega
  | n + 1, .dig c, S, (x1, x2, x3), g, en, w, hn, ho, hen, h, hS, he => by
    obtain ⟨h1, h2, h3, _⟩ := h
    obtain ⟨A, cc, h4⟩ := slice_form h3
    simp only at h1 h2 h4
    subst h1 h4
    exact sdep_dig _ A cc g en w he
  | n + 1, .var c, S, (x1, x2, x3), g, en, w, hn, ho, hen, h, hS, he => by
    obtain ⟨h1, h2, h3, _⟩ := h
    obtain ⟨A, cc, h4⟩ := slice_form h3
    simp only at h1 h2 h4
    subst h1 h2 h4
    have hv := vb ho
    have := sdep_var x2.toNat (by omega) A cc g en w he
    rw [show ((x2.toNat : Nat) : Int) = x2 from by omega] at this
    exact this
  | n + 1, .pre c s, S, (x1, x2, x3), g, en, w, hn, ho, hen, h, hS, he => by
    obtain ⟨h1, h2, y, h3, _, hy⟩ := h
    obtain ⟨A, cc, h4⟩ := slice_form h3
    simp only at h1 h2 h4 h3
    subst h1 h2 h4
    obtain ⟨y1, y2, y3⟩ := y
    obtain ⟨A2, k2, c2, h5⟩ := hy.form
    simp only at h5
    subst h5
    simp only [Tm.size] at hn
    exact sdep_pre x1 (s.depth en) y1 y2 A A2 cc k2 c2 g en w (s.depth_bd en hen) he h3 (fun u hu hue => sdep_any n s S (y1, y2, .slice A2 k2 c2) g en u (by omega) ho.2 hen (hy.grownG hS hu) hS hue)
  | n + 1, .two c s t, S, (x1, x2, x3), g, en, w, hn, ho, hen, h, hS, he => by
    obtain ⟨h1, h2, y, z, h3, hb, hy, hz⟩ := h
    obtain ⟨A, cc, h4⟩ := slice_form h3
    simp only at h1 h2 h4 h3 hb
    subst h1 h2 h4
    obtain ⟨y1, y2, y3⟩ := y
    obtain ⟨A2, k2, c2, h5⟩ := hy.form
    simp only at h5
    subst h5
    obtain ⟨z1, z2, z3⟩ := z
    obtain ⟨A3, k3, c3, h6⟩ := hz.form
    simp only at h6
    subst h6
    simp only [Tm.size] at hn
    exact sdep_two x1 (s.depth en) (t.depth en) y1 y2 z1 z2 A A2 A3 cc k2 c2 k3 c3 g en w he (fun x hx => hS x (hb x hx)) h3
      (fun u hu hue => sdep_any n s S (y1, y2, .slice A2 k2 c2) g en u (by omega) ho.2.1 hen (hy.grownG hS hu) hS hue)
      (fun u hu hue => sdep_any n t S (z1, z2, .slice A3 k3 c3) g en u (by omega) ho.2.2 hen (hz.grownG hS hu) hS hue)
  | n + 1, .loop c i s t, S, (x1, x2, x3), g, en, w, hn, ho, hen, h, hS, he => by
    obtain ⟨h1, h2, y, z, h3, hb, hy, hz⟩ := h
    obtain ⟨A, cc, h4⟩ := slice_form h3
    simp only at h1 h2 h4 h3 hb
    subst h1 h2 h4
    obtain ⟨y1, y2, y3⟩ := y
    obtain ⟨A2, k2, c2, h5⟩ := hy.form
    simp only at h5
    subst h5
    obtain ⟨z1, z2, z3⟩ := z
    obtain ⟨A3, k3, c3, h6⟩ := hz.form
    simp only at h6
    subst h6
    simp only [Tm.size] at hn
    have hl := lb ho.2.1
    have hl0 := isL_ge ho.2.1
    have hd1 := s.depth_bd en hen
    have hxk : ((x2.toNat : Nat) : Int) = x2 := by omega
    simp only [Tm.depth]
    by_cases hd : 1 ≤ s.depth en
    · rw [if_pos hd]
      have hbu := upd_bd hen x2 (d := s.depth en - 1) (by omega)
      have hd2 := t.depth_bd _ hbu
      have := sdep_loop1 x1 (s.depth en) (t.depth (upd en x2 (s.depth en - 1))) y1 y2 z1 z2 x2.toNat A A2 A3 cc k2 c2 k3 c3 g en w ho.1 (by omega) (by omega) hd hd1.2 hd2 he (fun x hx => hS x (hb x hx)) h3
        (fun u hu hue => sdep_any n s S (y1, y2, .slice A2 k2 c2) g en u (by omega) ho.2.2.1 hen (hy.grownG hS hu) hS hue)
        (fun u hu hue => by rw [hxk] at hue ⊢; exact sdep_any n t S (z1, z2, .slice A3 k3 c3) g _ u (by omega) ho.2.2.2 hbu (hz.grownG hS hu) hS hue)
      rw [hxk] at this
      exact this
    · rw [if_neg hd]
      have := sdep_loop0 x1 (s.depth en) y1 y2 z1 z2 x2.toNat A A2 A3 cc k2 c2 k3 c3 g en w (by omega) (by omega) he (fun x hx => hS x (hb x hx)) h3
        (fun u hu hue => sdep_any n s S (y1, y2, .slice A2 k2 c2) g en u (by omega) ho.2.2.1 hen (hy.grownG hS hu) hS hue)
      rw [hxk] at this
      exact this

set_option maxRecDepth 100000 in
set_option maxHeartbeats 2000000 in
theorem tdepth_spec (s : ByteArray) (hs : s.size ≤ 1048576) (w : World) :
    Calls Tryz.prog 45 #[.string s] w (DepP (depthA s) w) := by
  have H := Lib.hid (sterm_any s hs w)
  obtain ⟨r, hb⟩ : ∃ b, depthA s = b := ⟨_, rfl⟩
  rw [hb]
  have HB := Lib.hid hb
  clear hb
  go_enter Tryz.func45, Tryz.ntmps45
  go_wp2_with fail
  refine H.out.mono ?_
  intro e w1 hp
  unfold STermPost at hp
  have hb := HB.out
  unfold depthA at hb
  cases hr : readT s with
  | none =>
    rw [hr] at hp hb
    subst hb
    obtain ⟨rfl, hg⟩ := hp
    have HG := Lib.hid hg
    clear hg hr
    go_wp2_with fail
    go_ret
    exact ⟨rfl, HG.out.trans (World.grownBy_alloc _ _ _)⟩
  | some t =>
    rw [hr] at hp hb
    obtain ⟨a, d, A, k, c, rfl, hg, ha⟩ := hp
    have HG := Lib.hid (hg.trans (World.grownBy_alloc w1 (.cells #[.int .u8 a, .int .u8 d, .slice A k c] 52) none))
    have HX := Lib.hid (c3_new w1 (.int .u8 a) (.int .u8 d) (.slice A k c) 52)
    have x0 := HX.out.c0
    have x1 := HX.out.c1
    have x2 := HX.out.c2
    have hok := readT_some hr
    have HR : Hid (t.depth env0 = r) := Lib.hid hb
    have HA : Hid (SN w1 (fun b => b < w1.heap.size) t (a, d, .slice A k c)) := Lib.hid (ha.keep (fun _ _ _ => rfl) (fun b _ hl => hl) _ _)
    have HOK := Lib.hid hok.2.2.1
    have HSZ := Lib.hid hok.2.2.2
    have HCALL : Hid (∀ (g : Nat) (u : World), (w1.alloc (.cells #[.int .u8 a, .int .u8 d, .slice A k c] 52)).heap.size ≤ g → (w1.alloc (.cells #[.int .u8 a, .int .u8 d, .slice A k c] 52)).grownBy u none → EnvAt u g env0 →
        Calls Tryz.prog 72 #[.pointer (some ⟨g, 0, none⟩), .agg #[.int .u8 a, .int .u8 d, .slice A k c]] u (SDP r g env0 u)) := Lib.hid (fun g u hge hu hue => by
      rw [← HR.out]
      exact sdep_any 80 t _ (a, d, .slice A k c) g env0 u HSZ.out HOK.out env0_bd ((HA.out.grown (World.grownBy_alloc w1 _ none)).grown hu) (fun b (hb : b < w1.heap.size) => by rw [World.size_alloc] at hge; omega) hue)
    clear hg hr hb ha hok
    go_wp2_with fail
    go_region_law (first
      | (go_simp
         go_at_call 72
         refine (HCALL.out _ _ HGE.out HG2.out HE2.out).mono ?_
         rintro e w3 ⟨rfl, hg3, -⟩
         have HG3 := Lib.hid hg3
         clear hg3)
      | (go_simp
         go_at_call 71
         refine (sstart_any _).mono ?_
         rintro e w2 ⟨g, rfl, hge, hg2, he2⟩
         have hg2' := (gr_drewN (w1.alloc (.cells #[.int .u8 a, .int .u8 d, .slice A k c] 52)) 1 none).trans hg2
         have HG2 := Lib.hid hg2'
         have x0a := hg2'.cell x0 (by simp)
         have x1a := hg2'.cell x1 (by simp)
         have x2a := hg2'.cell x2 (by simp)
         have HGE : Hid ((w1.alloc (.cells #[.int .u8 a, .int .u8 d, .slice A k c] 52)).heap.size ≤ g) := Lib.hid hge
         have HE2 := Lib.hid he2
         clear hge hg2 he2 hg2'))
    all_goals
      go_wp2_with fail
    all_goals
      go_ret
      exact ⟨rfl, gr_new (HG.out.trans HG2.out) HG3.out (Nat.le_trans HG.out.size HGE.out)⟩
end

section
open Go.RowKit

def tdepA (s : ByteArray) : Int := depthA s
theorem tdep_spec (s : ByteArray) (hs : s.size ≤ 1048576) (w : World) : Calls Tryz.prog 45 #[.string s] w fun e w' => e = .returned (.int .i64 (tdepA s)) ∧ w.grownBy w' none := tdepth_spec s hs w
theorem tdep_impl (s : ByteArray) (_ : s.size ≤ 1048576) (w : World) : Calls Tryz.prog 15 #[.string s] w fun e w' => e = .returned (.int .i64 (tdepA s)) ∧ w.grownBy w' none := tdepth_impl s w
end
end

/-! DepC -/
section
open Go.RowKit

def depcA (s : ByteArray) : Int := match codeT s with
  | some t => depthA (bytesOf t.txt)
  | none => -1

set_option maxHeartbeats 1000000 in
theorem depc_spec (s : ByteArray) (w : World) : Calls Tryz.prog 19 #[.string s] w fun e w' => e = .returned (.int .i64 (depcA s)) ∧ w.grownBy w' none := by
  have H := Lib.hid (tof_spec s w)
  unfold TofP tofV at H
  unfold depcA
  cases hc : codeT s with
  | none =>
    rw [hc] at H
    simp only at H ⊢
    clear hc
    go_enter Tryz.func19, Tryz.ntmps19
    go_wp2_with fail
    refine H.out.mono ?_
    rintro e w1 ⟨rfl, hg1⟩
    have HG1 := Lib.hid hg1
    clear hg1
    go_wp2_with fail
    go_ret
    exact ⟨rfl, HG1.out⟩
  | some t =>
    have hl := (codeT_ok hc).2
    rw [hc] at H
    simp only at H ⊢
    have hz := bytesOf_size t.txt
    generalize bytesOf t.txt = x at H hz ⊢
    have HD := Lib.hid (fun w => tdepth_spec x (by omega) w)
    generalize depthA x = r at HD ⊢
    clear hc hz hl
    go_enter Tryz.func19, Tryz.ntmps19
    go_wp2_with fail
    refine H.out.mono ?_
    rintro e w1 ⟨rfl, hg1⟩
    have HG1 := Lib.hid hg1
    clear hg1
    go_wp2_with fail
    refine (HD.out _).mono ?_
    rintro e w2 ⟨rfl, hg2⟩
    have HG2 := Lib.hid hg2
    clear hg2
    go_wp2_with fail
    go_ret
    exact ⟨rfl, HG1.out.trans HG2.out⟩

set_option maxHeartbeats 1000000 in
theorem depc_impl (s : ByteArray) (w : World) : Calls Tryz.prog 14 #[.string s] w fun e w' => e = .returned (.int .i64 (depcA s)) ∧ w.grownBy w' none := by
  have H := Lib.hid (tof_impl s w)
  unfold TofP tofV at H
  unfold depcA
  cases hc : codeT s with
  | none =>
    rw [hc] at H
    simp only at H ⊢
    clear hc
    go_enter Tryz.func14, Tryz.ntmps14
    go_wp2_with fail
    refine H.out.mono ?_
    rintro e w1 ⟨rfl, hg1⟩
    have HG1 := Lib.hid hg1
    clear hg1
    go_wp2_with fail
    go_ret
    exact ⟨rfl, HG1.out⟩
  | some t =>
    have hl := (codeT_ok hc).2
    rw [hc] at H
    simp only at H ⊢
    have hz := bytesOf_size t.txt
    generalize bytesOf t.txt = x at H hz ⊢
    have HD := Lib.hid (fun w => tdepth_impl x w)
    generalize depthA x = r at HD ⊢
    clear hc hz hl
    go_enter Tryz.func14, Tryz.ntmps14
    go_wp2_with fail
    refine H.out.mono ?_
    rintro e w1 ⟨rfl, hg1⟩
    have HG1 := Lib.hid hg1
    clear hg1
    go_wp2_with fail
    refine (HD.out _).mono ?_
    rintro e w2 ⟨rfl, hg2⟩
    have HG2 := Lib.hid hg2
    clear hg2
    go_wp2_with fail
    go_ret
    exact ⟨rfl, HG1.out.trans HG2.out⟩
end

/-! SCod -/
section
open Go.RowKit

theorem ins_pos (t : Tm) : 0 < t.ins.length := by
  obtain ⟨xs, x, h, _⟩ := ins_last t
  rw [h]; simp

theorem slst_any : ∀ (n : Nat) (t : Tm) (S : Nat → Prop) (a b : Int) (A : Option Addr) (k c : Nat) (w : World), t.size ≤ n → n ≤ 1000 → t.Ok → SN w S t (a, b, .slice A k c) →
    Calls Tryz.prog 36 #[.agg #[.int .u8 a, .int .u8 b, .slice A k c]] w (LstP t w)
  | 0, t, _, _, _, _, _, _, _, hn, _, _, _ => by have := t.size_pos; omega
  | n + 1, .dig d, S, a, b, A, k, c, w, hn, hb, ho, h => by
    obtain ⟨h1, h2, hr, _⟩ := h
    simp only at h1 h2 hr
    subst h2
    obtain rfl := own_len hr
    exact slst_leaf _ a b A c w rfl
  | n + 1, .var d, S, a, b, A, k, c, w, hn, hb, ho, h => by
    obtain ⟨h1, h2, hr, _⟩ := h
    simp only at h1 h2 hr
    subst h2
    obtain rfl := own_len hr
    exact slst_leaf _ a b A c w rfl
  | n + 1, .pre d s, S, a, b, A, k, c, w, hn, hb, ho, h => by
    obtain ⟨h1, h2, ⟨y1, y2, y3⟩, hr, _, hs⟩ := h
    simp only at h1 h2 hr
    subst h1 h2
    obtain rfl := own_len hr
    obtain ⟨A2, k2, c2, h3⟩ := hs.form
    simp only at h3
    subst h3
    have hl := (ins_len s).1
    simp only [Tm.size] at hn
    exact slst_pre _ s a 0 y1 y2 A A2 c k2 c2 w rfl (by omega) hr (fun u hu => slst_any n s S y1 y2 A2 k2 c2 u (by omega) (by omega) ho.2 (hs.grown hu))
  | n + 1, .two d s t, S, a, b, A, k, c, w, hn, hb, ho, h => by
    obtain ⟨h1, h2, ⟨y1, y2, y3⟩, ⟨z1, z2, z3⟩, hr, _, hs, ht⟩ := h
    simp only at h1 h2 hr
    subst h1 h2
    obtain rfl := own_len hr
    obtain ⟨A2, k2, c2, h3⟩ := hs.form
    obtain ⟨A3, k3, c3, h4⟩ := ht.form
    simp only at h3 h4
    subst h3 h4
    have hl := (ins_len s).1
    have hl2 := (ins_len t).1
    simp only [Tm.size] at hn
    exact slst_two _ s t a y1 y2 z1 z2 A A2 A3 c k2 c2 k3 c3 w rfl (by omega) (by omega) (ins_pos t) hr (fun u hu => slst_any n s S y1 y2 A2 k2 c2 u (by omega) (by omega) ho.2.1 (hs.grown hu)) (fun u hu => slst_any n t S z1 z2 A3 k3 c3 u (by omega) (by omega) ho.2.2 (ht.grown hu))
  | n + 1, .loop d v s t, S, a, b, A, k, c, w, hn, hb, ho, h => by
    obtain ⟨h1, h2, ⟨y1, y2, y3⟩, ⟨z1, z2, z3⟩, hr, _, hs, ht⟩ := h
    simp only at h1 h2 hr
    subst h1 h2
    obtain rfl := own_len hr
    obtain ⟨A2, k2, c2, h3⟩ := hs.form
    obtain ⟨A3, k3, c3, h4⟩ := ht.form
    simp only at h3 h4
    subst h3 h4
    have hl := (ins_len s).1
    have hl2 := (ins_len t).1
    simp only [Tm.size] at hn
    have hv : b ≠ 0 := by
      have := isL_ge ho.2.1
      omega
    exact slst_loop _ s t a b y1 y2 z1 z2 A A2 A3 c k2 c2 k3 c3 w ho.1 hv rfl (by omega) (by omega) (ins_pos t) hr (fun u hu => slst_any n s S y1 y2 A2 k2 c2 u (by omega) (by omega) ho.2.2.1 (hs.grown hu)) (fun u hu => slst_any n t S z1 z2 A3 k3 c3 u (by omega) (by omega) ho.2.2.2 (ht.grown hu))

/-- The text that is put together from some instructions: a space ahead of all but the first one. -/
def txtN : Nat → List (List UInt8) → List UInt8
  | _, [] => []
  | j, x :: xs => (if 0 < j then 32 :: x else x) ++ txtN (j + 1) xs
def joinT (xs : List (List UInt8)) : List UInt8 := txtN 0 xs
theorem txtN_snoc (xs : List (List UInt8)) (x : List UInt8) : ∀ j, txtN j (xs ++ [x]) = txtN j xs ++ (if 0 < j + xs.length then 32 :: x else x) := by
  induction xs with
  | nil => intro j; simp [txtN]
  | cons a xs ih =>
    intro j
    have e : 0 < j + (xs.length + 1) := by omega
    have e2 : 0 < j + 1 + xs.length := by omega
    simp only [List.cons_append, txtN, ih, List.length_cons, if_pos e, if_pos e2, List.append_assoc]
theorem puts_joinT : ∀ (xs : List (List UInt8)), (∀ x ∈ xs, x ≠ []) → ∀ (l : List UInt8) (j : Nat), (l = [] ↔ j = 0) → puts l xs = l ++ txtN j xs
  | [], _, l, j, _ => by simp [puts, txtN]
  | x :: xs, hx, l, j, hl => by
    have hx1 := hx x (by simp)
    have e : puts l (x :: xs) = puts (put l x) xs := rfl
    have hp : put l x ≠ [] := by
      unfold put
      intro e
      exact hx1 (List.append_eq_nil_iff.1 e).2
    rw [e, puts_joinT xs (fun y hy => hx y (List.mem_cons_of_mem _ hy)) (put l x) (j + 1) ⟨fun h => absurd h hp, fun h => by omega⟩]
    simp only [txtN]
    by_cases h0 : j = 0
    · have := hl.2 h0
      subst this h0
      simp [put]
    · have hne : l ≠ [] := fun e => h0 (hl.1 e)
      rw [if_pos (by omega), put_some hne]
      simp
theorem ins_ne (t : Tm) : ∀ x ∈ t.ins, x ≠ [] := by
  induction t with
  | dig c => intro x hx; simp [Tm.ins] at hx; subst hx; simp
  | var c => intro x hx; simp [Tm.ins] at hx; subst hx; simp
  | pre c s ih =>
    intro x hx
    simp only [Tm.ins, List.mem_append, List.mem_singleton] at hx
    rcases hx with hx | rfl
    · exact ih x hx
    · simp
  | two c s t ih1 ih2 =>
    intro x hx
    simp only [Tm.ins, List.mem_append, List.mem_singleton] at hx
    rcases hx with hx | hx | rfl
    · exact ih1 x hx
    · exact ih2 x hx
    · simp
  | loop c v s t ih1 ih2 =>
    intro x hx
    simp only [Tm.ins, List.mem_append, List.mem_singleton] at hx
    rcases hx with hx | rfl | hx | rfl
    · exact ih1 x hx
    · simp
    · exact ih2 x hx
    · simp
theorem codeL_join (t : Tm) : joinT t.ins = codeL t := by
  have := puts_joinT t.ins (ins_ne t) [] 0 (by simp)
  simpa [codeL, joinT] using this.symm

theorem bstr_app (l m : List UInt8) : (⟨l.toArray⟩ : ByteArray) ++ ⟨m.toArray⟩ = ⟨(l ++ m).toArray⟩ := by
  apply ByteArray.ext
  rw [ByteArray.data_append]
  simp
theorem txtN_len (xs : List (List UInt8)) (h : ∀ x ∈ xs, x.length ≤ 2) : ∀ j, (txtN j xs).length ≤ 3 * xs.length := by
  induction xs with
  | nil => intro j; simp [txtN]
  | cons a xs ih =>
    intro j
    have h1 := ih (fun x hx => h x (List.mem_cons_of_mem _ hx)) (j + 1)
    have h2 := h a (by simp)
    simp only [txtN, List.length_append, List.length_cons]
    split <;> simp <;> omega

set_option maxRecDepth 100000 in
set_option maxHeartbeats 2000000 in
theorem stext_any (xs : List (List UInt8)) (base : Nat) (A : Option Addr) (c : Nat) (w : World) (ho : w.ownsRow base 9 1 (.slice A xs.length c) xs.length (insV xs)) (hl : xs.length ≤ 2000) (h2 : ∀ x ∈ xs, x.length ≤ 2) :
    Calls Tryz.prog 35 #[.slice A xs.length c] w fun e w' => e = .returned (.string ⟨(joinT xs).toArray⟩) ∧ w.grownBy w' none := by
  obtain ⟨_, hkc, hrow⟩ := orow ho
  obtain ⟨n, hn⟩ : ∃ n, xs.length = n := ⟨_, rfl⟩
  have HN := Lib.hid hn
  have H2 := Lib.hid h2
  rw [hn] at hl hkc hrow ⊢
  have HROW := Lib.hid hrow
  clear ho hn h2 hrow
  go_enter Tryz.func35, Tryz.ntmps35
  go_wp2_with fail
  go_loopw [3, 8] (fun u i wr => ∃ (j : Nat) (z : ByteArray), j ≤ n ∧ i = .int .i64 j ∧ u = .string z ∧ z.size ≤ 3 * j ∧ Hid (z = ⟨(joinT (xs.take j)).toArray⟩) ∧ Hid (w.grownBy wr none)) (fun _ i _ => n - (intOf i).toNat)
  case atStart => exact ⟨0, ⟨#[]⟩, Nat.zero_le _, rfl, rfl, by simp [ByteArray.size], Lib.hid (by simp [joinT, txtN]), Lib.hid (gr_refl _ _)⟩
  case round =>
    obtain ⟨j, z, hj, rfl, rfl, hzs, hz, hgr⟩ := hrel
    by_cases hlt : j < n
    · obtain ⟨g, rfl, _, hg1, hcell⟩ := HROW.out (by omega)
      obtain ⟨x, hx⟩ : ∃ x, xs[j]? = some x := ⟨_, List.getElem?_eq_getElem (by have := HN.out; omega)⟩
      have hc := hgr.out.cell (hcell j (.string ⟨x.toArray⟩) (by simp [insV, hx])) (by simp)
      have hx2 := H2.out x (List.mem_of_getElem? hx)
      have htk : xs.take (j + 1) = xs.take j ++ [x] := by rw [List.take_add_one, hx]; rfl
      obtain ⟨b, hb⟩ : ∃ b : ByteArray, ⟨x.toArray⟩ = b := ⟨_, rfl⟩
      have hbs : b.size ≤ 2 := by rw [← hb]; simpa [ByteArray.size] using hx2
      rw [hb] at hc
      have hlj : (xs.take j).length = j := by rw [List.length_take]; have := HN.out; omega
      by_cases h0 : 0 < j
      · obtain ⟨z1, hz1⟩ : ∃ z1 : ByteArray, z ++ { data := #[32] } = z1 := ⟨_, rfl⟩
        obtain ⟨z2, hz2⟩ : ∃ z2 : ByteArray, z1 ++ b = z2 := ⟨_, rfl⟩
        have hs1 : ({ data := #[32] } : ByteArray).size = 1 := rfl
        have hz1s : z1.size ≤ 3 * j + 1 := by rw [← hz1, ByteArray.size_append]; omega
        have hz2s : z2.size ≤ 3 * (j + 1) := by rw [← hz2, ByteArray.size_append]; omega
        have hd1 := fun u => str_add { data := #[32] } z z1 hz1 (by omega) u
        have hd2 := fun u => str_add b z1 z2 hz2 (by omega) u
        have HZ2 : Hid (z2 = ⟨(joinT (xs.take (j + 1))).toArray⟩) := Lib.hid (by
          rw [htk]
          unfold joinT
          rw [txtN_snoc, if_pos (by rw [hlj]; omega), ← hz2, ← hz1, hz.out, ← hb]
          rw [show ({ data := #[32] } : ByteArray) = ⟨([32] : List UInt8).toArray⟩ from rfl, bstr_app, bstr_app]
          unfold joinT
          simp)
        clear hz1 hz2 hs1 hz htk hb hlj hcell hx
        go_wp2_with fail
        go_roundw
        case rel => exact ⟨j + 1, z2, by omega, by go_num, rfl, hz2s, HZ2, hgr⟩
        case measure => simp [intOf]; omega
      · obtain rfl : j = 0 := by omega
        obtain ⟨z2, hz2⟩ : ∃ z2 : ByteArray, z ++ b = z2 := ⟨_, rfl⟩
        have hz2s : z2.size ≤ 3 * (0 + 1) := by rw [← hz2, ByteArray.size_append]; omega
        have hd2 := fun u => str_add b z z2 hz2 (by omega) u
        have HZ2 : Hid (z2 = ⟨(joinT (xs.take (0 + 1))).toArray⟩) := Lib.hid (by
          rw [htk]
          unfold joinT
          rw [txtN_snoc, if_neg (by rw [hlj]; omega), ← hz2, hz.out, ← hb, bstr_app]
          unfold joinT
          rfl)
        clear hz2 hz htk hb hlj hcell hx
        go_wp2_with fail
        go_roundw
        case rel => exact ⟨0 + 1, z2, by omega, by go_num, rfl, hz2s, HZ2, hgr⟩
        case measure => simp [intOf]; omega
    · have hjn : j = n := by omega
      have HJ := Lib.hid hjn
      clear hjn
      go_wp2_with fail
      go_ret
      refine ⟨?_, hgr.out⟩
      rw [hz.out, HJ.out, ← HN.out, List.take_length]
      rfl

set_option maxRecDepth 100000 in
set_option maxHeartbeats 2000000 in
theorem cod_spec (s : ByteArray) (hs : s.size ≤ 1048576) (w : World) : Calls Tryz.prog 8 #[.string s] w (CodP s w) := by
  have H := Lib.hid (sterm_any s hs w)
  unfold CodP codeV
  cases hr : readT s with
  | none =>
    have HR := Lib.hid hr
    simp only
    clear hr
    go_enter Tryz.func8, Tryz.ntmps8
    go_wp2_with fail
    refine H.out.mono ?_
    intro e w1 hp
    unfold STermPost at hp
    rw [HR.out] at hp
    obtain ⟨rfl, hg⟩ := hp
    have HG := Lib.hid (hg.trans (World.grownBy_alloc w1 (.cells #[.int .u8 0, .int .u8 0, .slice none 0 0] 52) none))
    clear hg
    go_wp2_with fail
    go_ret2
    exact ⟨rfl, HG.out⟩
  | some t =>
    have HR := Lib.hid hr
    have hok := readT_some hr
    have HOK := Lib.hid (And.intro hok.2.2.1 hok.2.2.2)
    simp only
    obtain ⟨z, hz⟩ : ∃ z : ByteArray, ⟨(codeL t).toArray⟩ = z := ⟨_, rfl⟩
    have HZ : Hid (⟨(joinT t.ins).toArray⟩ = z) := Lib.hid (by rw [codeL_join]; exact hz)
    rw [hz]
    clear hr hok hz
    go_enter Tryz.func8, Tryz.ntmps8
    go_wp2_with fail
    refine H.out.mono ?_
    intro e w1 hp
    unfold STermPost at hp
    rw [HR.out] at hp
    obtain ⟨a, b, A, k, c, rfl, hg, ha⟩ := hp
    obtain ⟨w2, hw2⟩ : ∃ z, w1.alloc (.cells #[.int .u8 a, .int .u8 b, .slice A k c] 52) = z := ⟨_, rfl⟩
    have g2 : w1.grownBy w2 none := by rw [← hw2]; exact World.grownBy_alloc _ _ _
    have hx : C3 w2 w1.heap.size (.int .u8 a) (.int .u8 b) (.slice A k c) 52 := by rw [← hw2]; exact c3_new _ _ _ _ _
    have x0 := hx.c0
    have x1 := hx.c1
    have x2 := hx.c2
    have HL := Lib.hid (slst_any t.size t _ a b A k c w2 (Nat.le_refl _) (by have := HOK.out.2; omega) HOK.out.1 (ha.grown g2))
    have HG := Lib.hid (hg.trans g2)
    clear hg ha g2 hx
    go_wp2_with fail
    refine HL.out.mono ?_
    rintro e w3 ⟨v, rfl, hg3, ho3⟩
    obtain ⟨A3, k3, c3, rfl⟩ := own_form ho3
    obtain rfl := own_len ho3
    have HT := Lib.hid (stext_any t.ins _ A3 c3 w3 ho3 (by have := (ins_len t).1; have := HOK.out.2; omega) (ins_len t).2)
    rw [HZ.out] at HT
    have HG3 := Lib.hid (HG.out.trans hg3)
    obtain ⟨n, hn⟩ : ∃ n, t.ins.length = n := ⟨_, rfl⟩
    rw [hn] at HT ⊢
    clear hg3 ho3 x0 x1 x2 hn
    go_wp2_with fail
    refine HT.out.mono ?_
    rintro e w4 ⟨rfl, hg4⟩
    have HG4 := Lib.hid (HG3.out.trans hg4)
    clear hg4
    go_wp2_with fail
    go_ret2
    exact ⟨rfl, HG4.out⟩
end

/-! CodI -/
section
open Go.RowKit

theorem gr_below {w1 w2 w3 : World} (h : w1.grownBy w2 none) (hb : Below w1.heap.size w2 w3) : w1.grownBy w3 none :=
  ⟨hb.os.trans h.os, hb.tape.trans h.tape, hb.output.trans h.output, Nat.le_trans h.size hb.size, fun k hk _ => (hb.block k hk).trans (h.block k hk (by simp))⟩

set_option maxRecDepth 100000 in
set_option maxHeartbeats 2000000 in
theorem cod_impl (s : ByteArray) (w : World) : Calls Tryz.prog 7 #[.string s] w (CodP s w) := by
  have H := Lib.hid (term_any s w)
  unfold CodP codeV
  cases hr : readT s with
  | none =>
    have HR := Lib.hid hr
    simp only
    clear hr
    go_enter Tryz.func7, Tryz.ntmps7
    go_wp2_with fail
    refine H.out.mono ?_
    intro e w1 hp
    unfold TermPost at hp
    rw [HR.out] at hp
    obtain ⟨rfl, hg⟩ := hp
    have HG := Lib.hid hg
    clear hg
    go_wp2_with fail
    go_ret2
    exact ⟨rfl, HG.out⟩
  | some t =>
    have HR := Lib.hid hr
    have hok := readT_some hr
    have HOK := Lib.hid (And.intro hok.2.2.1 hok.2.2.2)
    simp only
    obtain ⟨z, hz⟩ : ∃ z : ByteArray, ⟨(codeL t).toArray⟩ = z := ⟨_, rfl⟩
    have HZ := Lib.hid hz
    rw [hz]
    clear hr hok hz
    go_enter Tryz.func7, Tryz.ntmps7
    go_wp2_with fail
    refine H.out.mono ?_
    intro e w1 hp
    unfold TermPost at hp
    rw [HR.out] at hp
    obtain ⟨v, rfl, hg, ha⟩ := hp
    obtain ⟨ty, pv, rfl⟩ := ha.iface
    have HG := Lib.hid hg
    have hg2 := World.grownBy_alloc w1 (.cells #[.pointer none, .slice none 0 0] CW) none
    have hwb : WB (w1.alloc (.cells #[.pointer none, .slice none 0 0] CW)) w1.heap.size w1.heap.size [] := Lib.fresh_isBuilder CW U8 w1
    have hpt : PT (w1.alloc (.cells #[.pointer none, .slice none 0 0] CW)) (fun k => k < w1.heap.size) t (.iface ty pv) := ha.keep (fun k _ hk => hg2.block k hk (by simp)) (fun _ _ hk => hk) t _
    have HC := Lib.hid (wt_any t.size t (.iface ty pv) w1.heap.size w1.heap.size [] _ (Nat.le_refl _) HOK.out.1 hpt hwb (by have := HOK.out.2; simp; omega))
    have HG2 := Lib.hid hg2
    clear hg ha hg2 hwb hpt
    go_wp2_with fail
    refine HC.out.mono ?_
    rintro e w3 ⟨rfl, hw3, hb3, -⟩
    have HS := Lib.hid (bstr_any w1.heap.size w1.heap.size (codeL t) w3 hw3 (codeL_ne t))
    rw [HZ.out] at HS
    have HB3 := Lib.hid hb3
    clear hw3 hb3
    go_wp2_with fail
    refine HS.out.mono ?_
    rintro e w4 ⟨rfl, hb4⟩
    have HB4 := Lib.hid hb4
    clear hb4
    go_wp2_with fail
    go_ret2
    exact ⟨rfl, HG.out.trans (gr_below HG2.out (HB3.out.trans HB4.out))⟩
end

/-! CodT -/
section

def mkB (x : List UInt8) : ByteArray := ⟨x.toArray⟩
theorem mkB_data (x : List UInt8) : (mkB x).data.toList = x := by simp [mkB]
theorem mkB_size (x : List UInt8) : (mkB x).size = x.length := by simp [mkB, ByteArray.size]
theorem mkB_of (s : ByteArray) : mkB s.data.toList = s := by cases s; simp [mkB]
theorem ba_list {s : ByteArray} {i : Nat} {c : UInt8} (h : s.data.toList[i]? = some c) : ba s i = (c.toNat : Int) := by
  have hl := (List.getElem?_eq_some_iff.1 h).1
  have hs : i < s.size := by simpa using hl
  rw [ba_in hs]
  have h2 := (List.getElem?_eq_some_iff.1 h).2
  rw [← h2]
  simp
  rfl
theorem ba_mk {x : List UInt8} {i : Nat} {c : UInt8} (h : x[i]? = some c) : ba (mkB x) i = (c.toNat : Int) := ba_list (by rw [mkB_data]; exact h)
theorem byt_nat {c : Int} (h0 : 0 ≤ c) (h1 : c ≤ 255) : ((byt c).toNat : Int) = c := by
  unfold byt
  rw [UInt8.toNat_ofNat']
  omega

/-- Pieces with single spaces between them. -/
def joinR : List (List UInt8) → List UInt8
  | [] => []
  | [x] => x
  | x :: y :: xs => x ++ 32 :: joinR (y :: xs)
theorem puts_R : ∀ (xs : List (List UInt8)) (l : List UInt8), l ≠ [] → xs ≠ [] → puts l xs = l ++ 32 :: joinR xs
  | [], _, _, h => absurd rfl h
  | [x], l, hl, _ => by
    show put l x = _
    rw [put_some hl]
    simp [joinR]
  | x :: y :: xs, l, hl, _ => by
    show puts (put l x) (y :: xs) = _
    have hp : put l x ≠ [] := by rw [put_some hl]; simp
    rw [puts_R (y :: xs) _ hp (by simp), put_some hl]
    simp [joinR]
theorem puts_join : ∀ (xs : List (List UInt8)), (∀ x ∈ xs, x ≠ []) → puts [] xs = joinR xs
  | [], _ => rfl
  | [x], _ => by show put [] x = _; rw [put_none]; rfl
  | x :: y :: xs, h => by
    show puts (put [] x) (y :: xs) = _
    rw [put_none, puts_R (y :: xs) x (h x (by simp)) (by simp)]
    rfl

/-- What the texts of instructions are made of. -/
def InsTxt (x : List UInt8) : Prop := x ≠ [] ∧ x.length ≤ 2 ∧ ∀ c ∈ x, c ≠ 32
theorem byt_ne {c : Int} (h0 : 33 ≤ c) (h1 : c ≤ 255) : byt c ≠ 32 := fun e => by
  have h := byt_nat (c := c) (by omega) h1
  rw [e] at h
  have : ((32 : UInt8).toNat : Int) = 32 := by decide
  omega
theorem sgn_bd {c : Int} (h : isD c = true ∨ isV c = true ∨ isP c = true ∨ isB c = true ∨ isL c = true) : 33 ≤ c ∧ c ≤ 253 := by
  rcases h with h | h | h | h | h
  · have := isD_ge h; omega
  · have : c = 97 ∨ c = 98 ∨ 118 ≤ c ∧ c ≤ 122 := by simpa [isV] using h
    omega
  · have : c = 83 ∨ c = 77 ∨ c = 73 ∨ c = 78 ∨ c = 82 ∨ c = 67 ∨ c = 80 := by simpa [isP] using h
    omega
  · have : c = 43 ∨ c = 42 ∨ c = 94 ∨ c = 45 ∨ c = 61 ∨ c = 60 ∨ c = 64 := by simpa [isB] using h
    omega
  · have := isL_ge h; omega
theorem instxt_one {c : Int} (h0 : 33 ≤ c) (h1 : c ≤ 255) : InsTxt [byt c] := ⟨by simp, by simp, fun d hd => by rw [List.mem_singleton.1 hd]; exact byt_ne h0 h1⟩
theorem instxt_two {c v : Int} (h0 : 33 ≤ c) (h1 : c ≤ 255) (h2 : 33 ≤ v) (h3 : v ≤ 255) : InsTxt [byt c, byt v] := ⟨by simp, by simp, fun d hd => by
  rcases List.mem_cons.1 hd with rfl | hd
  · exact byt_ne h0 h1
  · rw [List.mem_singleton.1 hd]; exact byt_ne h2 h3⟩
theorem ins_txt : ∀ {t : Tm}, t.Ok → ∀ x ∈ t.ins, InsTxt x
  | .dig c, ho, x, hx => by
    have := sgn_bd (.inl ho)
    rw [List.mem_singleton.1 hx]; exact instxt_one this.1 (by omega)
  | .var c, ho, x, hx => by
    have := sgn_bd (.inr (.inl ho))
    rw [List.mem_singleton.1 hx]; exact instxt_one this.1 (by omega)
  | .pre c s, ho, x, hx => by
    have := sgn_bd (.inr (.inr (.inl ho.1)))
    simp only [Tm.ins, List.mem_append, List.mem_singleton] at hx
    rcases hx with hx | rfl
    · exact ins_txt ho.2 x hx
    · exact instxt_one this.1 (by omega)
  | .two c s t, ho, x, hx => by
    have := sgn_bd (.inr (.inr (.inr (.inl ho.1))))
    simp only [Tm.ins, List.mem_append, List.mem_singleton] at hx
    rcases hx with hx | hx | rfl
    · exact ins_txt ho.2.1 x hx
    · exact ins_txt ho.2.2 x hx
    · exact instxt_one this.1 (by omega)
  | .loop c v s t, ho, x, hx => by
    have h2 := sgn_bd (.inr (.inr (.inr (.inr ho.2.1))))
    have hc := ho.1
    simp only [Tm.ins, List.mem_append, List.mem_singleton] at hx
    rcases hx with hx | rfl | hx | rfl
    · exact ins_txt ho.2.2.1 x hx
    · exact instxt_two (by omega) (by omega) h2.1 (by omega)
    · exact ins_txt ho.2.2.2 x hx
    · exact instxt_one (by omega) (by omega)

/-- Pieces that are joined are cut apart again. -/
theorem cut_join {s : ByteArray} : ∀ (xs : List (List UInt8)) (p : Nat), xs ≠ [] → (∀ x ∈ xs, ∀ c ∈ x, c ≠ 32) → s.data.toList.drop p = joinR xs → p ≤ s.size → cutF s (s.size + 1 - p) p p = xs.map mkB
  | [], _, h, _, _, _ => absurd rfl h
  | x :: xs, p, _, hno, hd, hp => by
    have hsz : s.data.toList.length = s.size := by simp
    have hlen : (joinR (x :: xs)).length = s.size - p := by rw [← hd, List.length_drop, hsz]
    have hxl : x.length ≤ s.size - p := by
      rw [← hlen]
      cases xs with
      | nil => simp [joinR]
      | cons y ys => simp [joinR]
    have hat : ∀ j, j < x.length → s.data.toList[p + j]? = x[j]? := fun j hj => by
      rw [← List.getElem?_drop, hd]
      cases xs with
      | nil => rfl
      | cons y ys => simp only [joinR]; rw [List.getElem?_append_left hj]
    have hrun : cutF s (s.size + 1 - (p + x.length) + x.length) p p = cutF s (s.size + 1 - (p + x.length)) p (p + x.length) :=
      cutF_run x.length p _ (fun j hj => by
        obtain ⟨c, hc⟩ : ∃ c, x[j]? = some c := ⟨_, List.getElem?_eq_getElem hj⟩
        refine ⟨by omega, ?_⟩
        rw [ba_list ((hat j hj).trans hc)]
        have := hno x (by simp) c (List.mem_of_getElem? hc)
        intro e
        apply this
        have h32 : c.toNat = 32 := by omega
        exact UInt8.toNat_inj.1 (by rw [h32]; rfl))
    rw [show s.size + 1 - p = s.size + 1 - (p + x.length) + x.length from by omega, hrun, show s.size + 1 - (p + x.length) = (s.size - (p + x.length)) + 1 from by omega]
    have hext : s.extract p (p + x.length) = mkB x := by
      apply ByteArray.ext
      apply Array.toList_inj.1
      rw [mkB_data]
      apply List.ext_getElem?
      intro j
      rw [ByteArray.data_extract, Array.toList_extract]
      simp only [List.extract_eq_take_drop, List.getElem?_take, List.getElem?_drop]
      by_cases hj : j < x.length
      · rw [if_pos (by omega)]; exact hat j hj
      · rw [if_neg (by omega), List.getElem?_eq_none (by omega)]
    cases xs with
    | nil =>
      have he : p + x.length = s.size := by simp only [joinR] at hlen; omega
      rw [cutF_yes (.inl he), hext, show s.size - (p + x.length) = 0 from by omega]
      simp [cutF]
    | cons y ys =>
      have hl2 : (joinR (x :: y :: ys)).length = x.length + ((joinR (y :: ys)).length + 1) := by simp [joinR]
      have h32 : s.data.toList[p + x.length]? = some 32 := by
        rw [← List.getElem?_drop, hd]
        simp [joinR]
      rw [cutF_yes (.inr (by rw [ba_list h32]; rfl)), hext]
      have hd2 : s.data.toList.drop (p + x.length + 1) = joinR (y :: ys) := by
        rw [show p + x.length + 1 = p + (x.length + 1) from by omega, ← List.drop_drop, hd]
        simp [joinR]
      have ih := cut_join (s := s) (y :: ys) (p + x.length + 1) (by simp) (fun z hz => hno z (List.mem_cons_of_mem _ hz)) hd2 (by omega)
      rw [show s.size + 1 - (p + x.length + 1) = s.size - (p + x.length) from by omega] at ih
      rw [ih]
      rfl
theorem cutB_join (xs : List (List UInt8)) (h0 : xs ≠ []) (hno : ∀ x ∈ xs, ∀ c ∈ x, c ≠ 32) : cutB (mkB (joinR xs)) = xs.map mkB := by
  have := cut_join (s := mkB (joinR xs)) xs 0 h0 hno (by rw [mkB_data]; rfl) (Nat.zero_le _)
  exact this
theorem ins_nonempty (t : Tm) : t.ins ≠ [] := by
  obtain ⟨xs, x, h, _⟩ := ins_last t
  rw [h]; simp
theorem codeL_R {t : Tm} (ho : t.Ok) : codeL t = joinR t.ins := puts_join _ (fun x hx => (ins_txt ho x hx).1)
theorem cutB_code {t : Tm} (ho : t.Ok) : cutB (mkB (codeL t)) = t.ins.map mkB := by
  rw [codeL_R ho]
  exact cutB_join _ (ins_nonempty t) (fun x hx => (ins_txt ho x hx).2.2)

/-- What an instruction's text is read as. -/
theorem insOf_one {c : Int} {i : Ins} (h0 : 0 ≤ c) (h1 : c ≤ 255) (h : ins1 c = some i) : insOf (mkB [byt c]) = some i := by
  unfold insOf
  rw [if_pos (by rw [mkB_size]; rfl), ba_mk (x := [byt c]) (i := 0) (c := byt c) rfl, byt_nat h0 h1]
  exact h
theorem insOf_two {c v : Int} (hc : c = 91 ∨ c = 123) (hv : isL v = true) : insOf (mkB [byt c, byt v]) = some (.beg c v) := by
  have h2 := isL_ge hv
  unfold insOf
  rw [if_neg (by rw [mkB_size]; simp), ba_mk (x := [byt c, byt v]) (i := 0) (c := byt c) rfl, ba_mk (x := [byt c, byt v]) (i := 1) (c := byt v) rfl, byt_nat (by omega) (by omega), byt_nat (by omega) (by omega)]
  rw [if_pos ⟨by rw [mkB_size]; rfl, hc, hv⟩]
theorem ins1_dig {c : Int} (h : isD c = true) : ins1 c = some (.dig c) := by unfold ins1; rw [if_pos h]
theorem ins1_var {c : Int} (h : isV c = true) : ins1 c = some (.var c) := by
  have : c = 97 ∨ c = 98 ∨ 118 ≤ c ∧ c ≤ 122 := by simpa [isV] using h
  unfold ins1; rw [if_neg (by simp [isD]; omega), if_pos h]
theorem ins1_pre {c : Int} (h : isP c = true) : ins1 c = some (.pre c) := by
  have : c = 83 ∨ c = 77 ∨ c = 73 ∨ c = 78 ∨ c = 82 ∨ c = 67 ∨ c = 80 := by simpa [isP] using h
  unfold ins1; rw [if_neg (by simp [isD]; omega), if_neg (by simp [isV]; omega), if_pos h]
theorem ins1_two {c : Int} (h : isB c = true) : ins1 c = some (.two c) := by
  have : c = 43 ∨ c = 42 ∨ c = 94 ∨ c = 45 ∨ c = 61 ∨ c = 60 ∨ c = 64 := by simpa [isB] using h
  unfold ins1; rw [if_neg (by simp [isD]; omega), if_neg (by simp [isV]; omega), if_neg (by simp [isP]; omega), if_pos h]
theorem ins1_fin {c : Int} (h : c = 93 ∨ c = 125) : ins1 c = some (.fin c) := by
  rcases h with rfl | rfl <;> rfl

theorem runB_one {x : ByteArray} {i : Ins} {m : MS} (h : insOf x = some i) : runB [x] m = step i m := by
  simp only [runB, stepB, h]
  cases step i m <;> rfl
/-- The instructions of a term put it onto the stack. -/
theorem run_ins : ∀ {t : Tm}, t.Ok → ∀ (ts : List Tm) (os : List Out), runB (t.ins.map mkB) (ts, os) = some (t :: ts, os)
  | .dig c, ho, ts, os => by
    have := sgn_bd (.inl ho)
    show runB [mkB [byt c]] _ = _
    rw [runB_one (insOf_one (by omega) (by omega) (ins1_dig ho))]
    rfl
  | .var c, ho, ts, os => by
    have := sgn_bd (.inr (.inl ho))
    show runB [mkB [byt c]] _ = _
    rw [runB_one (insOf_one (by omega) (by omega) (ins1_var ho))]
    rfl
  | .pre c s, ho, ts, os => by
    have := sgn_bd (.inr (.inr (.inl ho.1)))
    simp only [Tm.ins, List.map_append, List.map_cons, List.map_nil]
    rw [runB_append, run_ins ho.2 ts os]
    simp only
    rw [runB_one (insOf_one (by omega) (by omega) (ins1_pre ho.1))]
    rfl
  | .two c s t, ho, ts, os => by
    have := sgn_bd (.inr (.inr (.inr (.inl ho.1))))
    simp only [Tm.ins, List.map_append, List.map_cons, List.map_nil]
    rw [runB_append, run_ins ho.2.1 ts os]
    simp only
    rw [runB_append, run_ins ho.2.2 (s :: ts) os]
    simp only
    rw [runB_one (insOf_one (by omega) (by omega) (ins1_two ho.1))]
    rfl
  | .loop c v s t, ho, ts, os => by
    have hc := ho.1
    simp only [Tm.ins, List.map_append, List.map_cons, List.map_nil]
    rw [runB_append, run_ins ho.2.2.1 ts os]
    simp only
    rw [runB_append, runB_one (insOf_two hc ho.2.1)]
    simp only [step]
    rw [runB_append, run_ins ho.2.2.2 [] _]
    simp only
    rw [runB_one (insOf_one (c := c + 2) (i := .fin (c + 2)) (by omega) (by omega) (ins1_fin (by omega)))]
    simp [step]
theorem codeT_code {t : Tm} (ho : t.Ok) (hl : t.txt.length ≤ 80) (hc : (codeL t).length ≤ 200) : codeT (mkB (codeL t)) = some t := by
  unfold codeT
  rw [if_neg (by rw [mkB_size]; omega), cutB_code ho, run_ins ho [] []]
  simp only [whole]
  rw [if_pos hl]

/-- A term has an instruction for each term within it, and one more for each loop. -/
theorem ins_count (t : Tm) : t.ins.length = t.size + t.ins.countP (fun x => decide (x.length = 2)) := by
  induction t with
  | dig c => simp [Tm.ins, Tm.size]
  | var c => simp [Tm.ins, Tm.size]
  | pre c s ih => simp [Tm.ins, Tm.size, List.countP_append]; omega
  | two c s t ih1 ih2 => simp [Tm.ins, Tm.size, List.countP_append]; omega
  | loop c v s t ih1 ih2 => simp [Tm.ins, Tm.size, List.countP_append]; omega

/-- What the machine's terms are made of: all pieces so far. -/
def insO : List Out → List (List UInt8)
  | [] => []
  | o :: os => insO os ++ (insK o.low.reverse ++ (o.over.ins ++ [[byt o.c, byt o.v]]))
def insM (m : MS) : List (List UInt8) := insO m.2 ++ insK m.1.reverse
theorem insK_app (a b : List Tm) : insK (a ++ b) = insK a ++ insK b := by
  induction a with
  | nil => rfl
  | cons t a ih => simp [insK, ih]
theorem insK_one (t : Tm) : insK [t] = t.ins := by simp [insK]
theorem piece_one {x : ByteArray} (hs : x.size = 1) : x.data.toList = [byt (ba x 0)] := by
  have hl : x.data.toList.length = 1 := by simpa using hs
  obtain ⟨c, hc⟩ : ∃ c, x.data.toList = [c] := List.length_eq_one_iff.1 hl
  rw [ba_list (show x.data.toList[0]? = some c by rw [hc]; rfl), hc]
  congr 1
  unfold byt
  simp
theorem piece_two {x : ByteArray} (hs : x.size = 2) : x.data.toList = [byt (ba x 0), byt (ba x 1)] := by
  have hl : x.data.toList.length = 2 := by simpa using hs
  obtain ⟨c, d, hc⟩ : ∃ c d, x.data.toList = [c, d] := by
    match hx : x.data.toList, hl with
    | [c, d], _ => exact ⟨c, d, rfl⟩
  rw [ba_list (show x.data.toList[0]? = some c by rw [hc]; rfl), ba_list (show x.data.toList[1]? = some d by rw [hc]; rfl), hc]
  unfold byt
  simp
/-- The text of an instruction. -/
def Ins.txt : Ins → List UInt8
  | .dig c => [byt c]
  | .var c => [byt c]
  | .pre c => [byt c]
  | .two c => [byt c]
  | .beg c v => [byt c, byt v]
  | .fin c => [byt c]
theorem insOf_txt {x : ByteArray} {i : Ins} (h : insOf x = some i) : x.data.toList = i.txt := by
  unfold insOf at h
  by_cases h1 : x.size = 1
  · rw [if_pos h1] at h
    rw [piece_one h1]
    unfold ins1 at h
    (repeat' split at h) <;> first | (cases h; rfl) | cases h
  · rw [if_neg h1] at h
    split at h
    · rename_i h2
      cases h
      rw [piece_two h2.1]
      rfl
    · cases h
theorem step_insM {i : Ins} {m m' : MS} (h : step i m = some m') : insM m' = insM m ++ [i.txt] := by
  obtain ⟨ts, os⟩ := m
  cases i with
  | dig c => cases h; simp [insM, insK_app, insK_one, Tm.ins, Ins.txt]
  | var c => cases h; simp [insM, insK_app, insK_one, Tm.ins, Ins.txt]
  | pre c =>
    cases ts with
    | nil => cases h
    | cons x ts => cases h; simp [insM, insK_app, insK_one, Tm.ins, Ins.txt]
  | two c =>
    cases ts with
    | nil => cases h
    | cons y ts =>
      cases ts with
      | nil => cases h
      | cons x ts => cases h; simp [insM, insK_app, insK, Tm.ins, Ins.txt]
  | beg c v =>
    cases ts with
    | nil => cases h
    | cons x ts => cases h; simp [insM, insO, insK_app, insK, Ins.txt]
  | fin c =>
    cases ts with
    | nil => cases h
    | cons y ts =>
      cases ts with
      | cons x ts => cases h
      | nil =>
        cases os with
        | nil => cases h
        | cons o os =>
          simp only [step] at h
          split at h
          · rename_i hc
            cases h
            simp [insM, insO, insK_app, insK_one, Tm.ins, Ins.txt, hc]
          · cases h
theorem run_insM : ∀ (l : List ByteArray) (m m' : MS), runB l m = some m' → insM m' = insM m ++ l.map (fun x => x.data.toList)
  | [], m, m', h => by cases h; simp
  | x :: l, m, m', h => by
    simp only [runB] at h
    cases hs : stepB x m with
    | none => rw [hs] at h; cases h
    | some m1 =>
      rw [hs] at h
      have h2 := hs
      unfold stepB at h2
      cases hi : insOf x with
      | none => rw [hi] at h2; cases h2
      | some i =>
        rw [hi] at h2
        rw [run_insM l m1 m' h, step_insM h2, ← insOf_txt hi]
        simp
/-- What is cut apart is joined again. -/
theorem join_cut {s : ByteArray} : ∀ (f p i : Nat), f = s.size + 1 - i → p ≤ i → i ≤ s.size → joinR ((cutF s f p i).map fun x => x.data.toList) = s.data.toList.drop p ∧ cutF s f p i ≠ []
  | 0, p, i, hf, _, hi => by omega
  | f + 1, p, i, hf, hpi, hi => by
    have hsz : s.data.toList.length = s.size := by simp
    have hext : (s.extract p i).data.toList = (s.data.toList.drop p).take (i - p) := by
      rw [ByteArray.data_extract, Array.toList_extract, List.extract_eq_take_drop]
    by_cases hy : i = s.size ∨ ba s i = 32
    · rw [cutF_yes hy]
      by_cases he : i = s.size
      · subst he
        have hf0 : f = 0 := by omega
        subst hf0
        refine ⟨?_, by simp⟩
        simp only [cutF, List.map_cons, List.map_nil, joinR]
        rw [hext, List.take_of_length_le (by rw [List.length_drop, hsz]; omega)]
      · have h32 := hy.resolve_left he
        obtain ⟨ih, hne⟩ := join_cut (s := s) f (i + 1) (i + 1) (by omega) (Nat.le_refl _) (by omega)
        refine ⟨?_, by simp⟩
        cases hq : cutF s f (i + 1) (i + 1) with
        | nil => exact absurd hq hne
        | cons y ys =>
          rw [hq] at ih
          simp only [List.map_cons, joinR] at ih ⊢
          rw [ih, hext]
          have hc : s.data.toList[i]? = some 32 := by
            obtain ⟨c, hc⟩ : ∃ c, s.data.toList[i]? = some c := ⟨_, List.getElem?_eq_getElem (by omega)⟩
            have := ba_list hc
            rw [h32] at this
            rw [hc]
            congr 1
            exact UInt8.toNat_inj.1 (by have : ((32 : UInt8).toNat : Int) = 32 := by decide
                                        omega)
          have e1 : s.data.toList.drop p = (s.data.toList.drop p).take (i - p) ++ (s.data.toList.drop p).drop (i - p) := (List.take_append_drop _ _).symm
          rw [List.drop_drop, show p + (i - p) = i from by omega] at e1
          have e2 : s.data.toList[i]'(by omega) = 32 := (List.getElem?_eq_some_iff.1 hc).2
          have e3 : s.data.toList.drop i = 32 :: s.data.toList.drop (i + 1) := by rw [List.drop_eq_getElem_cons (by omega), e2]
          rw [e3] at e1
          exact e1.symm
    · have h1 : i ≠ s.size := fun e => hy (.inl e)
      have h2 : ba s i ≠ 32 := fun e => hy (.inr e)
      rw [cutF_no h1 h2]
      exact join_cut f p (i + 1) (by omega) (by omega) (by omega)
theorem joinR_cut (s : ByteArray) : joinR ((cutB s).map fun x => x.data.toList) = s.data.toList := by
  have := (join_cut (s := s) (s.size + 1) 0 0 (by omega) (Nat.le_refl _) (Nat.zero_le _)).1
  simpa [cutB] using this
/-- Code is the code of its term. -/
theorem code_codeT {s : ByteArray} {t : Tm} (h : codeT s = some t) : mkB (codeL t) = s ∧ t.Ok ∧ t.txt.length ≤ 80 ∧ t.ins = (cutB s).map (fun x => x.data.toList) := by
  unfold codeT at h
  by_cases hs : 200 < s.size
  · rw [if_pos hs] at h; cases h
  · rw [if_neg hs] at h
    cases hr : runB (cutB s) ([], []) with
    | none => rw [hr] at h; cases h
    | some m =>
      rw [hr] at h
      simp only at h
      cases hw : whole m with
      | none => rw [hw] at h; cases h
      | some t' =>
        rw [hw] at h
        simp only at h
        split at h
        · rename_i hl
          cases h
          have hm : m = ([t], []) := by
            unfold whole at hw
            split at hw
            · cases hw; rfl
            · cases hw
          subst hm
          have ho := (whole_told (by omega) hr hw).1
          have hi := run_insM _ _ _ hr
          have e : t.ins = (cutB s).map (fun x => x.data.toList) := by simpa [insM, insO, insK] using hi
          refine ⟨?_, ho, hl, e⟩
          rw [codeL_R ho, e, joinR_cut, mkB_of]
        · cases h
end

/-! TSize -/
section
open Go.RowKit

set_option maxRecDepth 100000 in
set_option maxHeartbeats 1000000 in
theorem tsizeof_any : ∀ (n : Nat) (t : Tm) (S : Nat → Prop) (ty : TypeId) (pv : Value) (w : World), t.size ≤ n → n ≤ 1000000 → PT w S t (.iface ty pv) →
    Calls Tryz.prog 40 #[.iface ty pv] w fun e w' => e = .returned (.int .i64 (t.size : Nat)) ∧ w.grownBy w' none
  | 0, t, S, ty, pv, w, hn, _, h => by have := t.size_pos; omega
  | n + 1, t, S, ty, pv, w, hn, hn2, h => by
    have HI := Lib.hid (tsizeof_any n)
    have hm := method_parts h
    have hrun := run_parts t pv
    have HK := Lib.hid (parts_any t S ty pv w h)
    have hks := csum_kids t
    have HKS := Lib.hid hks
    have HN := Lib.hid hn
    clear h hks hn
    go_enter Tryz.func40, Tryz.ntmps40
    go_wp2_with fail
    refine HK.out.mono ?_
    rintro e w1 ⟨hg1, sv, xs, rfl, ho, ha⟩
    obtain ⟨A, k, c, rfl⟩ := own_form ho
    obtain ⟨hk, hkc, hrow⟩ := orow ho
    have hlen := All2.length _ _ ha
    have HKL := Lib.hid hk
    have HLEN := Lib.hid hlen
    have HROW := Lib.hid hrow
    have HA := Lib.hid ha
    have HG1 := Lib.hid hg1
    have hk2 : k ≤ 2 := by have := kids_len t; omega
    clear hg1 ho ha hk hlen hrow hm hrun
    go_wp2_with fail
    go_loopw [3, 9] (fun u i wr => ∃ j m : Nat, j ≤ k ∧ i = .int .i64 j ∧ u = .int .i64 m ∧ m ≤ n + 1 ∧ Hid (m = 1 + csum (t.kids.take j)) ∧ Hid (w1.grownBy wr none)) (fun _ i _ => k - (intOf i).toNat)
    case atStart => exact ⟨0, 1, Nat.zero_le _, rfl, rfl, by omega, Lib.hid (by simp [csum]), Lib.hid (gr_refl _ _)⟩
    case round =>
      obtain ⟨j, m, hj, rfl, rfl, hmn, hm, hgr⟩ := hrel
      by_cases hlt : j < k
      · obtain ⟨g, rfl, hg0, hg1, hcell⟩ := HROW.out (by omega)
        obtain ⟨tj, xj, htj, hxj, hpj⟩ := HA.out.get (j := j) (by have := HKL.out; omega)
        have hc := hcell j xj hxj
        obtain ⟨tyj, pvj, rfl⟩ := hpj.iface
        have hcw := hgr.out.cell hc (by simp)
        have hst := csum_step htj
        have hbd : csum (t.kids.take j) + tj.size ≤ n := by
          have hlq := csum_take t.kids (j + 1)
          have hks2 := HKS.out
          have hn3 := HN.out
          omega
        have htn : tj.size ≤ n := by omega
        have HP := Lib.hid ((hpj.grown HG1.out).grown hgr.out)
        have HST := Lib.hid hst
        have HBD := Lib.hid hbd
        have hm2 : m + tj.size ≤ n + 1 := by have := hm.out; omega
        clear hpj htj hxj hc hst hcell hbd
        obtain ⟨z, hz⟩ : ∃ z, tj.size = z := ⟨_, rfl⟩
        have HCALL := Lib.hid (HI.out tj _ tyj pvj wr htn (by omega) HP.out)
        rw [hz] at HCALL hm2
        have HZ := Lib.hid hz
        clear hz htn
        go_wp2_with fail
        refine HCALL.out.mono ?_
        rintro e w2 ⟨rfl, hg2⟩
        have HG2 := Lib.hid (hgr.out.trans hg2)
        clear hg2 hcw
        go_wp2_with fail
        go_roundw
        case rel => exact ⟨j + 1, m + z, by omega, by go_num, by go_num, by omega, Lib.hid (by rw [hm.out, HST.out, HZ.out]; omega), HG2⟩
        case measure => simp [intOf]; omega
      · have hjk : j = k := by omega
        have HJ := Lib.hid hjk
        clear hjk
        go_wp2_with fail
        go_ret
        refine ⟨?_, HG1.out.trans hgr.out⟩
        have e1 : m = t.size := by
          rw [hm.out, HKS.out, HJ.out, List.take_of_length_le (by rw [HLEN.out, HKL.out]; exact Nat.le_refl _)]
        rw [← e1]
        rfl
end

/-! DCod -/
section
open Go.RowKit

theorem drawcode_any (A : Option Addr) (n c : Nat) (w : World) (h : Byts w A n) (hc : n ≤ c) (hn : n ≤ 9223372036854775807) :
    Calls Tryz.prog 6 #[.slice A n c] w (TxtP w) := by
  have HO := Lib.hid (open_anyT A n c w h hc hn)
  clear h hc hn
  go_enter Tryz.func6, Tryz.ntmps6
  go_wp2_with fail
  refine HO.out.mono ?_
  rintro e w1 ⟨rfl, ⟨n', c', hn', hr, _⟩, hg⟩
  have HS := Lib.hid (some_any w.heap.size n' c' 0 A w1 hr (by omega) hn')
  have HG := Lib.hid hg
  clear hr hg
  go_wp2_with fail
  refine HS.out.mono ?_
  rintro e w2 ⟨s, p', rfl, hs, _, _, _, hg2⟩
  have HG2 := Lib.hid (gr_row5 HG.out hg2 (fun k e => by cases e; exact Nat.le_refl _))
  clear hg2
  go_wp2_with fail
  go_ret
  exact ⟨s, rfl, hs, HG2.out⟩

theorem tvalidI_any (s : ByteArray) (w : World) :
    Calls Tryz.prog 9 #[.string s] w fun e w' => e = .returned (.bool (tvalidA s)) ∧ w.grownBy w' none := by
  have H := Lib.hid (term_any s w)
  obtain ⟨b, hb⟩ : ∃ b, tvalidA s = b := ⟨_, rfl⟩
  rw [hb]
  have HB := Lib.hid hb
  clear hb
  go_enter Tryz.func9, Tryz.ntmps9
  go_wp2_with fail
  refine H.out.mono ?_
  intro e w1 hp
  unfold TermPost at hp
  have hb := HB.out
  unfold tvalidA at hb
  cases hr : readT s with
  | none =>
    rw [hr] at hp hb
    obtain rfl : b = false := hb.symm
    obtain ⟨rfl, hg⟩ := hp
    have HG := Lib.hid hg
    clear hg hr hb
    go_wp2_with fail
    go_ret
    exact ⟨rfl, HG.out⟩
  | some t =>
    rw [hr] at hp hb
    obtain rfl : b = true := hb.symm
    obtain ⟨v, rfl, hg, ha⟩ := hp
    obtain ⟨ty, pv, rfl⟩ := ha.iface
    have HG := Lib.hid hg
    clear hg ha hr hb
    go_wp2_with fail
    go_ret
    exact ⟨rfl, HG.out⟩

theorem tsizeI_any (s : ByteArray) (t : Tm) (hr : readT s = some t) (w : World) :
    Calls Tryz.prog 13 #[.string s] w fun e w' => e = .returned (.int .i64 ((t.size : Nat) : Int)) ∧ w.grownBy w' none := by
  have H := Lib.hid (term_any s w)
  have HR := Lib.hid hr
  obtain ⟨n, hn⟩ : ∃ n, t.size = n := ⟨_, rfl⟩
  rw [hn]
  have HN := Lib.hid hn
  clear hr hn
  go_enter Tryz.func13, Tryz.ntmps13
  go_wp2_with fail
  refine H.out.mono ?_
  intro e w1 hp
  unfold TermPost at hp
  rw [HR.out] at hp
  obtain ⟨v, rfl, hg, ha⟩ := hp
  obtain ⟨ty, pv, rfl⟩ := ha.iface
  have HG := Lib.hid hg
  have HC := Lib.hid (tsizeof_any t.size t _ ty pv w1 (Nat.le_refl _) (by have := (readT_some HR.out).2.2.2; omega) ha)
  rw [HN.out] at HC
  clear hg ha
  go_wp2_with fail
  refine HC.out.mono ?_
  rintro e w2 ⟨rfl, hg2⟩
  have HG2 := Lib.hid hg2
  clear hg2
  go_wp2_with fail
  go_ret
  exact ⟨rfl, HG.out.trans HG2.out⟩

/-- How long code is. -/
def wt7 : List (List UInt8) → Nat
  | [] => 0
  | x :: xs => x.length + 1 + wt7 xs
theorem wt7_app (a b : List (List UInt8)) : wt7 (a ++ b) = wt7 a + wt7 b := by
  induction a with
  | nil => simp [wt7]
  | cons x a ih => simp only [List.cons_append, wt7, ih]; omega
theorem joinR_len : ∀ (xs : List (List UInt8)), xs ≠ [] → (joinR xs).length + 1 = wt7 xs
  | [], h => absurd rfl h
  | [x], _ => by simp [joinR, wt7]
  | x :: y :: xs, _ => by
    have := joinR_len (y :: xs) (by simp)
    simp only [joinR, List.length_append, List.length_cons, wt7] at this ⊢
    omega
theorem wt7_ins (t : Tm) : wt7 t.ins ≤ 2 * t.txt.length := by
  induction t with
  | dig c => simp [Tm.ins, wt7, Tm.txt]
  | var c => simp [Tm.ins, wt7, Tm.txt]
  | pre c s ih => simp [Tm.ins, wt7_app, wt7, Tm.txt]; omega
  | two c s t ih1 ih2 => simp [Tm.ins, wt7_app, wt7, Tm.txt]; omega
  | loop c v s t ih1 ih2 => simp [Tm.ins, wt7_app, wt7, Tm.txt]; omega
theorem codeL_len {t : Tm} (ho : t.Ok) (hl : t.txt.length ≤ 80) : (codeL t).length ≤ 159 := by
  have h1 := joinR_len t.ins (ins_nonempty t)
  have h2 := wt7_ins t
  rw [codeL_R ho]
  omega

/-- What is known of the code of a term's text. -/
structure CodF (s : ByteArray) (t : Tm) (z : ByteArray) : Prop where
  code : codeV s = (z, true)
  valid : tvalidA s = true
  term : tofV z = (s, true)
  cval : cvalA z = true
  inst : instA z = t.ins.map mkB
  depth : depcA z = depthA s
  short : z.size ≤ 159
theorem codF {s : ByteArray} {t : Tm} (h : readT s = some t) : CodF s t (mkB (codeL t)) := by
  have hok := readT_some h
  have htl := readT_len h
  have ho := hok.2.2.1
  have hl : t.txt.length ≤ 80 := by omega
  have hc := codeL_len ho hl
  have hct := codeT_code ho hl (by omega)
  have hb : bytesOf t.txt = s := by
    have h2 := readT_txt h
    unfold bytesOf
    rw [← h2]
  refine ⟨?_, ?_, ?_, ?_, ?_, ?_, ?_⟩
  · unfold codeV; rw [h]; rfl
  · unfold tvalidA; rw [h]; rfl
  · unfold tofV; rw [hct]; simp only [hb]
  · unfold cvalA; rw [hct]; rfl
  · unfold instA; rw [hct]; exact cutB_code ho
  · unfold depcA; rw [hct]; simp only [hb]
  · rw [mkB_size]; exact hc
end

end Go.Proofs.YtohdlnkkchijnaaGreatDoor
