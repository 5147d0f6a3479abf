/- What the model's builder of terms does at any text. -/
import Derived.Test.YtfaeolnmkdjhaaaDoorSDo
import Derived.Test.YtfaeolnmkdjhaaaDoorSCut
import Derived.Test.YtfaeolnmkdjhaaaDoorSEnd
namespace Go.Proofs.YtfaeolnmkdjhaaaDoor
section
open Go.RowKit

theorem infoIn : (Tryd.prog.info? 3).map (fun i => (i.zero, i.size, i.bytes)) = some (some (.int .i64 0), 1, 8) := by kernel_rfl

theorem two_eq {x : ByteArray} (hs : x.size = 2) : x = strOfNums [ba x 0, ba x 1] := by
  apply ByteArray.ext
  apply Array.toList_inj.1
  rw [strOfNums_data]
  have h0 : 0 < x.size := by omega
  have h1 : 1 < x.size := by omega
  rw [ba_in h0, ba_in h1]
  have hl : x.data.toList.length = 2 := by simpa using hs
  match hx : x.data.toList, hl with
  | [p, q], _ =>
    have e0 : x.data.toList[0]? = some x[0] := by rw [List.getElem?_eq_getElem (by omega)]; simp; rfl
    have e1 : x.data.toList[1]? = some x[1] := by rw [List.getElem?_eq_getElem (by omega)]; simp; rfl
    rw [hx] at e0 e1
    simp at e0 e1
    rw [← e0, ← e1]
    simp

/-- Behind the beginning of a loop. -/
theorem bs_begin {w w' : World} {n0 b : Nat} {t : Tm} {ts : List Tm} {os : List Out} {v0 v1 v2 u1 u2 : Value} {xs : List (Int × Int × Value)} {c v : Int} (h : BS w n0 b (t :: ts, os) v0 v1 v2 xs) (hb : C3 w' b v0 u1 u2 59) (h1 : w'.ownsRow n0 9 1 u1 (os.length + 1) ((lpS os).map Value.string ++ [.string (strOfNums [c, v])]))
    (h2 : w'.ownsRow n0 3 1 u2 (os.length + 1) ((bsI os).map (Value.int .i64) ++ [.int .i64 (xs.length : Nat)])) (hc : Chg (fun k => k = b ∨ v1.ownBlock = some k ∨ v2.ownBlock = some k) w w') : BS w' n0 b ([], ⟨c, v, t, ts⟩ :: os) v0 u1 u2 xs := by
  have hcw : Chg (BW b v0 v1 v2) w w' := hc.mono (fun _ _ e => by
    rcases e with e | e | e
    · exact .inl e
    · exact .inr (.inr (.inl e))
    · exact .inr (.inr (.inr e)))
  have hlen := bs_len h
  simp only [List.length_cons] at hlen
  refine ⟨h.base, hb, own_keep h.st (fun g hg => hc.same g (h.st.lt g hg).2 (fun e => ?_)), ?_, ?_, ?_⟩
  · obtain ⟨cs, hcs⟩ := own_heap h.st hg
    rcases e with e | e | e
    · exact own_not h.st h.box (by decide) (e ▸ hg)
    · exact own_not h.lo hcs (by decide) e
    · exact own_not h.ba hcs (by decide) e
  · have e : flatS (([], ⟨c, v, t, ts⟩ :: os) : MS) = flatS ((t :: ts, os) : MS) := by simp [flatS, low]
    rw [e]
    exact All2.mono (fun t N ht => bs_sn h hcw (Fr3.refl w v0) t N ht) _ _ h.sn
  · simpa [lpS] using h1
  · have e : ((low (⟨c, v, t, ts⟩ :: os)).length : Int) = ((xs.length : Nat) : Int) := by rw [hlen]; simp [low]
    simp only [bsI, List.map_append, List.map_cons, List.map_nil, List.length_cons]
    rw [e]
    exact h2

set_option maxRecDepth 100000 in
set_option maxHeartbeats 1000000 in
theorem sdo_bad (n0 b : Nat) (x : ByteArray) (hk : kS x = 0) (v0 v1 v2 : Value) (w : World) :
    Calls Tryd.prog 38 #[.pointer (some ⟨b, 0, none⟩), .string x] w (DoP n0 b v0 v1 v2 none w) := by
  have HK := Lib.hid (fun w => skind_any x w)
  rw [hk] at HK
  clear hk
  go_enter Tryd.func38, Tryd.ntmps38
  go_wp2_with fail
  refine (HK.out w).mono ?_
  rintro e w' ⟨rfl, rfl⟩
  go_wp2_with fail
  go_ret
  exact doP_no rfl rfl (Chg.refl _ _)

set_option maxRecDepth 100000 in
set_option maxHeartbeats 1000000 in
theorem sdo_beg0 (n0 b : Nat) (x : ByteArray) (hk : kS x = 91) (os : List Out) (v0 v1 v2 : Value) (xs : List (Int × Int × Value)) (w : World) (h : BS w n0 b ([], os) v0 v1 v2 xs) (hl : xs.length ≤ 990) (hl2 : os.length ≤ 990) :
    Calls Tryd.prog 38 #[.pointer (some ⟨b, 0, none⟩), .string x] w (DoP n0 b v0 v1 v2 none w) := by
  have HK := Lib.hid (fun w => skind_any x w)
  rw [hk] at HK
  have hf := bs_floor h (by simp only; omega)
  have hlen := bs_len h
  simp only [List.length_nil] at hlen
  obtain ⟨A, n, cc, rfl⟩ := own_form h.st
  obtain rfl := own_len h.st
  have e0 := h.box.c0
  have e2 := h.box.c2
  obtain ⟨nx, hnx⟩ : ∃ n, xs.length = n := ⟨_, rfl⟩
  obtain ⟨f, hff⟩ : ∃ f, (low os).length = f := ⟨_, rfl⟩
  rw [hnx] at e0 hl
  rw [hff] at hf
  obtain rfl : nx = f := by omega
  obtain ⟨A2, m, c2, rfl, hm, hc⟩ := hf
  rw [hnx]
  clear h hk hlen hff hnx
  rcases hc with ⟨rfl, rfl⟩ | ⟨m', g, rfl, rfl, hgl, hcell⟩
  · go_enter Tryd.func38, Tryd.ntmps38
    go_wp2_with fail
    refine (HK.out w).mono ?_
    rintro e w' ⟨rfl, rfl⟩
    go_wp2_with fail
    go_ret
    exact doP_no rfl rfl (Chg.refl _ _)
  · have hmm : ((m' : Nat) : Int) < ((m' : Nat) : Int) + 1 := by omega
    go_enter Tryd.func38, Tryd.ntmps38
    go_wp2_with fail
    refine (HK.out w).mono ?_
    rintro e w' ⟨rfl, rfl⟩
    go_wp2_with fail
    go_quiet (fail)
    go_wp2_with fail
    go_ret
    exact doP_no rfl rfl (Chg.grown (gr_drewN _ _ none))

set_option maxRecDepth 100000 in
set_option maxHeartbeats 2000000 in
theorem sdo_beg1 (n0 b : Nat) (x : ByteArray) (hs : x.size = 2) (c v : Int) (h0 : ba x 0 = c) (h1 : ba x 1 = v) (hk : kS x = 91) (t : Tm) (ts : List Tm) (os : List Out) (v0 v1 v2 : Value) (xs : List (Int × Int × Value)) (w : World) (h : BS w n0 b (t :: ts, os) v0 v1 v2 xs) (hl : xs.length ≤ 990) (hl2 : os.length ≤ 990) (hn : n0 ≤ w.heap.size) :
    Calls Tryd.prog 38 #[.pointer (some ⟨b, 0, none⟩), .string x] w (DoP n0 b v0 v1 v2 (some ([], ⟨c, v, t, ts⟩ :: os)) w) := by
  obtain ⟨i0, hi0, hz0, hz1, hz2⟩ := info_parts infoSt
  obtain ⟨i1, hi1, hy0, hy1, hy2⟩ := info_parts infoIn
  have HX := Lib.hid (show x = strOfNums [c, v] by rw [← h0, ← h1]; exact two_eq hs)
  have HK := Lib.hid (fun w => skind_any x w)
  rw [hk] at HK
  have hf := bs_floor h (by simp only; omega)
  have hlen := bs_len h
  simp only [List.length_cons] at hlen
  have H := Lib.hid h
  obtain ⟨A, n, cc, hv0⟩ := own_form h.st
  obtain ⟨A1, n1, cc1, hv1⟩ := own_form h.lo
  obtain ⟨A2, m, c2, hv2, hm, hc⟩ := hf
  subst hv0
  subst hv1
  subst hv2
  have hn0' := own_len h.st
  have hn1' := own_len h.lo
  have hn2' := own_len h.ba
  simp only at hn1' hn2'
  subst hn0' hn1'
  have e0 := h.box.c0
  have e1 := h.box.c1
  have e2 := h.box.c2
  have e3 := h.box.f 1
  have HLO := Lib.hid h.lo
  have hba0 := h.ba
  simp only at hba0
  rw [← hn2'] at hba0
  have HBA := Lib.hid hba0
  clear hba0
  have hbox := h.box
  have hB1 : (Value.slice A1 os.length cc1).ownBlock ≠ some b := own_not h.lo h.box (by decide)
  have hB2 : (Value.slice A2 m c2).ownBlock ≠ some b := own_not h.ba h.box (by decide)
  have H12 := Lib.hid (show ∀ g, (Value.slice A2 m c2).ownBlock = some g → (Value.slice A1 os.length cc1).ownBlock ≠ some g from fun g hg => by
    obtain ⟨cs, hcs⟩ := own_heap h.ba hg
    exact own_not h.lo hcs (by decide))
  have HBN := Lib.hid (And.intro hB1 hB2)
  have hle : ¬ (((xs.length : Nat) : Int) ≤ (((low os).length : Nat) : Int)) := by omega
  obtain ⟨nx, hnx⟩ : ∃ n, xs.length = n := ⟨_, rfl⟩
  have HNX := Lib.hid hnx
  obtain ⟨f, hff⟩ : ∃ f, (low os).length = f := ⟨_, rfl⟩
  rw [hff] at hc hle
  rw [hnx] at e0 hle hl hbox ⊢
  have HBX := Lib.hid hbox
  have HM := Lib.hid hn2'
  clear h hk hlen hnx hff hB1 hB2 h0 h1 hn2' hbox
  rcases hc with ⟨rfl, rfl⟩ | ⟨m', g, rfl, rfl, hgl, hcell⟩
  · go_enter Tryd.func38, Tryd.ntmps38
    go_wp2_with fail
    refine (HK.out w).mono ?_
    rintro e w' ⟨rfl, rfl⟩
    skip
    have hgV : w'.grownBy (w'.alloc (.cells #[.string x] 9)) none := World.grownBy_alloc w' _ none
    have own1 := HLO.out.alloc (.cells #[.string x] 9)
    go_wp2_with (at_builtin; refine wpList_append_own_at _ rfl _ _ 25 rfl n0 9 i0 (.string .empty) 1 16 Tryd.underlying25 hi0 hz0 hz1 hz2 rfl (by decide) _ _ _ rfl own1 ⟨w'.heap.size, 0, none⟩ 1 1 [.string x] rfl rfl ?a1 ?a2 ?a3 ?a4 ?a5 ?_)
    case a1 => exact cell_one_new _ _ _
    case a2 => simp [Value.oneCell']
    case a3 => simp only [maxLen]; omega
    case a4 => omega
    case a5 => simp; omega
    intro u1 w8 hown8 hg8 _ hb8
    obtain ⟨A8, k8, c8, rfl⟩ := own_form hown8
    have hx8 : C3 w8 b (.slice A nx cc) (.slice A1 os.length cc1) (Value.slice A2 0 c2) 59 := (HBX.out.grown hgV (by simp)).grown hg8 (fun e => HBN.out.1 e.symm)
    have d0 := hx8.c0
    have d1 := hx8.c1
    have d2 := hx8.c2
    have d3 := hx8.f 1
    have HX8 := Lib.hid hx8
    have HO8 := Lib.hid hown8
    have HG8 := Lib.hid hg8
    have HB8 := Lib.hid hb8
    clear hx8 hown8 hg8 hb8 own1
    go_wp2_with fail
    obtain ⟨w9, hw9⟩ : ∃ z, w8.setCell ⟨b, 1, none⟩ (.slice A8 k8 c8) = z := ⟨_, rfl⟩
    obtain ⟨w10, hw10⟩ : ∃ z, w9.drew.alloc (.cells #[.int .i64 (nx : Nat)] 3) = z := ⟨_, rfl⟩
    have hx9 : C3 w9 b (.slice A nx cc) (.slice A8 k8 c8) (Value.slice A2 0 c2) 59 := by rw [← hw9]; exact HX8.out.set1 _
    have g10 : w9.grownBy w10 none := by rw [← hw10]; exact (gr_drewN w9 1 none).trans (World.grownBy_alloc w9.drew _ none)
    have hx10 := hx9.grown g10 (by simp)
    have q0 := hx9.c0
    have q2 := hx9.c2
    have p0 := hx10.c0
    have p2 := hx10.c2
    have hba8 := own_keep (own_keep HBA.out (fun k hk => hgV.block k (HBA.out.lt k hk).2 (by simp))) (fun k hk => HG8.out.block k (Nat.lt_of_lt_of_le (HBA.out.lt k hk).2 hgV.size) (fun e => H12.out k hk e.symm))
    have hba9 : w9.ownsRow n0 3 1 (Value.slice A2 0 c2) (0) ((bsI os).map (Value.int .i64)) := own_keep hba8 (fun k hk => by rw [← hw9]; exact Below.heap_setCell _ _ _ _ (fun e => HBN.out.2 (by rw [hk]; simpa using e)))
    have hba10 := own_keep hba9 (fun k hk => g10.block k (hba9.lt k hk).2 (by simp))
    have hsz10 : n0 ≤ w10.heap.size := by
      have a1 := hgV.size
      have a2 := HG8.out.size
      have a3 : w9.heap.size = w8.heap.size := by rw [← hw9]; simp
      have a4 := g10.size
      omega
    have HNL : Hid (∀ (j : Nat) (u : Value), ([.int .i64 (nx : Nat)] : List Value)[j]? = some u → w10.cell? ((⟨w9.heap.size, 0, none⟩ : Addr).add j) = some u) := Lib.hid (by rw [← hw10]; exact cell_one_new w9.drew _ _)
    have HX10 := Lib.hid hx10
    have HBA10 := Lib.hid hba10
    have HG10 := Lib.hid g10
    clear hx9 hx10 g10 hba8 hba9 hba10 d0 d1 d2 d3
    go_region_law (refine step_append_lies _ (by rfl) _ _ _ (by rfl) n0 3 i1 _ 1 8 Tryd.underlying29 hi1 hy0 hy1 hy2 rfl (by omega) _ (0) _ (by rfl) HBA10.out ⟨w9.heap.size, 0, none⟩ 1 1 [.int .i64 (nx : Nat)] (by rfl) (by rfl) HNL.out (by simp [Value.oneCell']) (by omega) (by simp only [maxLen]; omega) (by omega) hsz10 w10.heap.size rfl ?_
                   intro gg cap w11 hown11 hg11 hat11 hlt11
                   have hx11 : C3 w11 b (.slice A nx cc) (.slice A8 k8 c8) (Value.slice A2 0 c2) 59 := HX10.out.grown hg11 (fun e => HBN.out.2 e.symm)
                   have z2 := hx11.c2
                   have zf := hx11.f 2
                   have HX11 := Lib.hid hx11
                   have HO11 := Lib.hid hown11
                   have HG11 := Lib.hid hg11
                   have HA11 := Lib.hid hat11
                   clear hx11 hown11 hg11 hat11)
    all_goals
      clear z2 zf p0 p2 q0 q2
      obtain ⟨w12, hw12⟩ : ∃ z, w11.setCell ⟨b, 2, none⟩ (.slice (some ⟨gg, 0, none⟩) 1 cap) = z := ⟨_, rfl⟩
      have f12 : C3 w12 b (.slice A nx cc) (.slice A8 k8 c8) (.slice (some ⟨gg, 0, none⟩) 1 cap) 59 := by rw [← hw12]; exact HX11.out.set2 _
      have r1 : w12.ownsRow n0 9 1 (.slice A8 k8 c8) (os.length + 1) ((lpS os).map Value.string ++ [.string (strOfNums [c, v])]) := by
        have a1 := HO8.out
        rw [HX.out] at a1
        have a9 := own_keep a1 (fun k hk => by rw [← hw9]; exact Below.heap_setCell _ _ _ _ (fun e => own_not a1 HX8.out (by decide) (by rw [hk]; simpa using e)) : ∀ k, (Value.slice A8 k8 c8).ownBlock = some k → w9.heap[k]? = w8.heap[k]?)
        have a10 := own_keep a9 (fun k hk => HG10.out.block k (a9.lt k hk).2 (by simp))
        have a11 := own_keep a10 (fun k hk => HG11.out.block k (a10.lt k hk).2 (fun e => by
          obtain ⟨cs, hcs⟩ := own_heap a10 hk
          exact own_not HBA10.out hcs (by decide) e.symm))
        exact own_keep a11 (fun k hk => by rw [← hw12]; exact Below.heap_setCell _ _ _ _ (fun e => own_not a11 HX11.out (by decide) (by rw [hk]; simpa using e)))
      have r2 : w12.ownsRow n0 3 1 (.slice (some ⟨gg, 0, none⟩) 1 cap) (os.length + 1) ((bsI os).map (Value.int .i64) ++ [.int .i64 (xs.length : Nat)]) := by
        have a1 := HO11.out
        rw [HNX.out, ← HM.out]
        exact own_keep a1 (fun k hk => by rw [← hw12]; exact Below.heap_setCell _ _ _ _ (fun e => own_not a1 HX11.out (by decide) (by rw [hk]; simpa using e)))
      have hch : Chg (fun k => k = b ∨ (Value.slice A1 os.length cc1).ownBlock = some k ∨ (Value.slice A2 0 c2).ownBlock = some k) w' w12 := by
        have k0 : Chg (fun k => k = b ∨ (Value.slice A1 os.length cc1).ownBlock = some k ∨ (Value.slice A2 0 c2).ownBlock = some k) w' w8 := (Chg.grown hgV).trans (Chg.row (wr := fun k => k = b ∨ (Value.slice A1 os.length cc1).ownBlock = some k ∨ (Value.slice A2 0 c2).ownBlock = some k) HG8.out (fun k hk => .inr (.inl hk))) (fun _ _ e => e) (fun _ _ e => e)
        have k1 : Chg (fun k => k = b ∨ (Value.slice A1 os.length cc1).ownBlock = some k ∨ (Value.slice A2 0 c2).ownBlock = some k) w' w9 := by rw [← hw9]; exact chg_set k0 (.inl rfl)
        have k2 := (k1.trans (Chg.grown (wr := fun k => k = b ∨ (Value.slice A1 os.length cc1).ownBlock = some k ∨ (Value.slice A2 0 c2).ownBlock = some k) HG10.out) (fun _ _ e => e) (fun _ _ e => e)).trans (Chg.row (wr := fun k => k = b ∨ (Value.slice A1 os.length cc1).ownBlock = some k ∨ (Value.slice A2 0 c2).ownBlock = some k) HG11.out (fun k hk => .inr (.inr hk))) (fun _ _ e => e) (fun _ _ e => e)
        rw [← hw12]; exact chg_set k2 (.inl rfl)
      have hbs := bs_begin H.out (by rw [HNX.out]; exact f12) r1 r2 hch
      rw [HNX.out] at hbs
      have hf1 : Fr3 w' (.slice A1 os.length cc1) (.slice A8 k8 c8) := fun k hk => by
        rcases HB8.out with e | e
        · exact .inl (e ▸ hk)
        · rw [e] at hk; cases hk; exact .inr (by first | exact Nat.le_succ _ | exact hgV.size | simp)
      have hf2 : Fr3 w' (Value.slice A2 0 c2) (.slice (some ⟨gg, 0, none⟩) 1 cap) := fun k hk => by
        cases hk
        rcases HA11.out with e | e
        · exact .inl e
        · refine .inr ?_
          have a1 := hgV.size
          have a2 := HG8.out.size
          have a3 : w9.heap.size = w8.heap.size := by rw [← hw9]; simp
          have a4 := HG10.out.size
          show w'.heap.size ≤ gg
          omega
      have HBS := Lib.hid hbs
      have HCH := Lib.hid (hch.mono (wr := BW b (.slice A nx cc) (.slice A1 os.length cc1) (Value.slice A2 0 c2)) (fun _ _ e => by
        rcases e with e | e | e
        · exact .inl e
        · exact .inr (.inr (.inl e))
        · exact .inr (.inr (.inr e))))
      rw [hw12]
      clear f12 r1 r2 hch hbs hw12
      go_wp2_with fail
      go_ret
      exact doP_yes rfl rfl HCH.out HBS.out (Fr3.refl _ _) hf1 hf2
  · have hmm : ((m' : Nat) : Int) < ((m' : Nat) : Int) + 1 := by omega
    go_enter Tryd.func38, Tryd.ntmps38
    go_wp2_with fail
    refine (HK.out w).mono ?_
    rintro e w' ⟨rfl, rfl⟩
    go_wp2_with fail
    go_quiet (fail)
    have hgV : w'.grownBy ((w'.drewN nq).alloc (.cells #[.string x] 9)) none := (gr_drewN w' nq none).trans (World.grownBy_alloc (w'.drewN nq) _ none)
    have own1 := HLO.out.alloc (.cells #[.string x] 9)
    go_wp2_with (at_builtin; refine wpList_append_own_at _ rfl _ _ 25 rfl n0 9 i0 (.string .empty) 1 16 Tryd.underlying25 hi0 hz0 hz1 hz2 rfl (by decide) _ _ _ rfl own1 ⟨w'.heap.size, 0, none⟩ 1 1 [.string x] rfl rfl ?a1 ?a2 ?a3 ?a4 ?a5 ?_)
    case a1 => exact cell_one_new _ _ _
    case a2 => simp [Value.oneCell']
    case a3 => simp only [maxLen]; omega
    case a4 => omega
    case a5 => simp; omega
    intro u1 w8 hown8 hg8 _ hb8
    obtain ⟨A8, k8, c8, rfl⟩ := own_form hown8
    have hx8 : C3 w8 b (.slice A nx cc) (.slice A1 os.length cc1) (Value.slice (some ⟨g, 0, none⟩) (m' + 1) c2) 59 := (HBX.out.grown hgV (by simp)).grown hg8 (fun e => HBN.out.1 e.symm)
    have d0 := hx8.c0
    have d1 := hx8.c1
    have d2 := hx8.c2
    have d3 := hx8.f 1
    have HX8 := Lib.hid hx8
    have HO8 := Lib.hid hown8
    have HG8 := Lib.hid hg8
    have HB8 := Lib.hid hb8
    clear hx8 hown8 hg8 hb8 own1
    go_wp2_with fail
    obtain ⟨w9, hw9⟩ : ∃ z, w8.setCell ⟨b, 1, none⟩ (.slice A8 k8 c8) = z := ⟨_, rfl⟩
    obtain ⟨w10, hw10⟩ : ∃ z, w9.drew.alloc (.cells #[.int .i64 (nx : Nat)] 3) = z := ⟨_, rfl⟩
    have hx9 : C3 w9 b (.slice A nx cc) (.slice A8 k8 c8) (Value.slice (some ⟨g, 0, none⟩) (m' + 1) c2) 59 := by rw [← hw9]; exact HX8.out.set1 _
    have g10 : w9.grownBy w10 none := by rw [← hw10]; exact (gr_drewN w9 1 none).trans (World.grownBy_alloc w9.drew _ none)
    have hx10 := hx9.grown g10 (by simp)
    have q0 := hx9.c0
    have q2 := hx9.c2
    have p0 := hx10.c0
    have p2 := hx10.c2
    have hba8 := own_keep (own_keep HBA.out (fun k hk => hgV.block k (HBA.out.lt k hk).2 (by simp))) (fun k hk => HG8.out.block k (Nat.lt_of_lt_of_le (HBA.out.lt k hk).2 hgV.size) (fun e => H12.out k hk e.symm))
    have hba9 : w9.ownsRow n0 3 1 (Value.slice (some ⟨g, 0, none⟩) (m' + 1) c2) (m' + 1) ((bsI os).map (Value.int .i64)) := own_keep hba8 (fun k hk => by rw [← hw9]; exact Below.heap_setCell _ _ _ _ (fun e => HBN.out.2 (by rw [hk]; simpa using e)))
    have hba10 := own_keep hba9 (fun k hk => g10.block k (hba9.lt k hk).2 (by simp))
    have hsz10 : n0 ≤ w10.heap.size := by
      have a1 := hgV.size
      have a2 := HG8.out.size
      have a3 : w9.heap.size = w8.heap.size := by rw [← hw9]; simp
      have a4 := g10.size
      omega
    have HNL : Hid (∀ (j : Nat) (u : Value), ([.int .i64 (nx : Nat)] : List Value)[j]? = some u → w10.cell? ((⟨w9.heap.size, 0, none⟩ : Addr).add j) = some u) := Lib.hid (by rw [← hw10]; exact cell_one_new w9.drew _ _)
    have HX10 := Lib.hid hx10
    have HBA10 := Lib.hid hba10
    have HG10 := Lib.hid g10
    clear hx9 hx10 g10 hba8 hba9 hba10 d0 d1 d2 d3
    go_region_law (refine step_append_lies _ (by rfl) _ _ _ (by rfl) n0 3 i1 _ 1 8 Tryd.underlying29 hi1 hy0 hy1 hy2 rfl (by omega) _ (m' + 1) _ (by rfl) HBA10.out ⟨w9.heap.size, 0, none⟩ 1 1 [.int .i64 (nx : Nat)] (by rfl) (by rfl) HNL.out (by simp [Value.oneCell']) (by omega) (by simp only [maxLen]; omega) (by omega) hsz10 w10.heap.size rfl ?_
                   intro gg cap w11 hown11 hg11 hat11 hlt11
                   have hx11 : C3 w11 b (.slice A nx cc) (.slice A8 k8 c8) (Value.slice (some ⟨g, 0, none⟩) (m' + 1) c2) 59 := HX10.out.grown hg11 (fun e => HBN.out.2 e.symm)
                   have z2 := hx11.c2
                   have zf := hx11.f 2
                   have HX11 := Lib.hid hx11
                   have HO11 := Lib.hid hown11
                   have HG11 := Lib.hid hg11
                   have HA11 := Lib.hid hat11
                   clear hx11 hown11 hg11 hat11)
    all_goals
      clear z2 zf p0 p2 q0 q2
      obtain ⟨w12, hw12⟩ : ∃ z, w11.setCell ⟨b, 2, none⟩ (.slice (some ⟨gg, 0, none⟩) (m' + 1 + 1) cap) = z := ⟨_, rfl⟩
      have f12 : C3 w12 b (.slice A nx cc) (.slice A8 k8 c8) (.slice (some ⟨gg, 0, none⟩) (m' + 1 + 1) cap) 59 := by rw [← hw12]; exact HX11.out.set2 _
      have r1 : w12.ownsRow n0 9 1 (.slice A8 k8 c8) (os.length + 1) ((lpS os).map Value.string ++ [.string (strOfNums [c, v])]) := by
        have a1 := HO8.out
        rw [HX.out] at a1
        have a9 := own_keep a1 (fun k hk => by rw [← hw9]; exact Below.heap_setCell _ _ _ _ (fun e => own_not a1 HX8.out (by decide) (by rw [hk]; simpa using e)) : ∀ k, (Value.slice A8 k8 c8).ownBlock = some k → w9.heap[k]? = w8.heap[k]?)
        have a10 := own_keep a9 (fun k hk => HG10.out.block k (a9.lt k hk).2 (by simp))
        have a11 := own_keep a10 (fun k hk => HG11.out.block k (a10.lt k hk).2 (fun e => by
          obtain ⟨cs, hcs⟩ := own_heap a10 hk
          exact own_not HBA10.out hcs (by decide) e.symm))
        exact own_keep a11 (fun k hk => by rw [← hw12]; exact Below.heap_setCell _ _ _ _ (fun e => own_not a11 HX11.out (by decide) (by rw [hk]; simpa using e)))
      have r2 : w12.ownsRow n0 3 1 (.slice (some ⟨gg, 0, none⟩) (m' + 1 + 1) cap) (os.length + 1) ((bsI os).map (Value.int .i64) ++ [.int .i64 (xs.length : Nat)]) := by
        have a1 := HO11.out
        rw [HNX.out, ← HM.out]
        exact own_keep a1 (fun k hk => by rw [← hw12]; exact Below.heap_setCell _ _ _ _ (fun e => own_not a1 HX11.out (by decide) (by rw [hk]; simpa using e)))
      have hch : Chg (fun k => k = b ∨ (Value.slice A1 os.length cc1).ownBlock = some k ∨ (Value.slice (some ⟨g, 0, none⟩) (m' + 1) c2).ownBlock = some k) w' w12 := by
        have k0 : Chg (fun k => k = b ∨ (Value.slice A1 os.length cc1).ownBlock = some k ∨ (Value.slice (some ⟨g, 0, none⟩) (m' + 1) c2).ownBlock = some k) w' w8 := (Chg.grown hgV).trans (Chg.row (wr := fun k => k = b ∨ (Value.slice A1 os.length cc1).ownBlock = some k ∨ (Value.slice (some ⟨g, 0, none⟩) (m' + 1) c2).ownBlock = some k) HG8.out (fun k hk => .inr (.inl hk))) (fun _ _ e => e) (fun _ _ e => e)
        have k1 : Chg (fun k => k = b ∨ (Value.slice A1 os.length cc1).ownBlock = some k ∨ (Value.slice (some ⟨g, 0, none⟩) (m' + 1) c2).ownBlock = some k) w' w9 := by rw [← hw9]; exact chg_set k0 (.inl rfl)
        have k2 := (k1.trans (Chg.grown (wr := fun k => k = b ∨ (Value.slice A1 os.length cc1).ownBlock = some k ∨ (Value.slice (some ⟨g, 0, none⟩) (m' + 1) c2).ownBlock = some k) HG10.out) (fun _ _ e => e) (fun _ _ e => e)).trans (Chg.row (wr := fun k => k = b ∨ (Value.slice A1 os.length cc1).ownBlock = some k ∨ (Value.slice (some ⟨g, 0, none⟩) (m' + 1) c2).ownBlock = some k) HG11.out (fun k hk => .inr (.inr hk))) (fun _ _ e => e) (fun _ _ e => e)
        rw [← hw12]; exact chg_set k2 (.inl rfl)
      have hbs := bs_begin H.out (by rw [HNX.out]; exact f12) r1 r2 hch
      rw [HNX.out] at hbs
      have hf1 : Fr3 w' (.slice A1 os.length cc1) (.slice A8 k8 c8) := fun k hk => by
        rcases HB8.out with e | e
        · exact .inl (e ▸ hk)
        · rw [e] at hk; cases hk; exact .inr (by first | exact Nat.le_succ _ | exact hgV.size | simp)
      have hf2 : Fr3 w' (Value.slice (some ⟨g, 0, none⟩) (m' + 1) c2) (.slice (some ⟨gg, 0, none⟩) (m' + 1 + 1) cap) := fun k hk => by
        cases hk
        rcases HA11.out with e | e
        · exact .inl e
        · refine .inr ?_
          have a1 := hgV.size
          have a2 := HG8.out.size
          have a3 : w9.heap.size = w8.heap.size := by rw [← hw9]; simp
          have a4 := HG10.out.size
          show w'.heap.size ≤ gg
          omega
      have HBS := Lib.hid hbs
      have HCH := Lib.hid (hch.mono (wr := BW b (.slice A nx cc) (.slice A1 os.length cc1) (Value.slice (some ⟨g, 0, none⟩) (m' + 1) c2)) (fun _ _ e => by
        rcases e with e | e | e
        · exact .inl e
        · exact .inr (.inr (.inl e))
        · exact .inr (.inr (.inr e))))
      rw [hw12]
      clear f12 r1 r2 hch hbs hw12
      go_wp2_with fail
      go_ret
      exact doP_yes rfl rfl HCH.out HBS.out (Fr3.refl _ _) hf1 hf2
end

section
open Go.RowKit

set_option maxRecDepth 100000 in
set_option maxHeartbeats 2000000 in
theorem sdo_two0 (n0 b : Nat) (x : ByteArray) (hs : x.size = 1) (c : Int) (hc : ((x[0].toNat : Nat) : Int) = c) (hk : kS x = 43) (os : List Out) (v0 v1 v2 : Value) (xs : List (Int × Int × Value)) (w : World) (h : BS w n0 b ([], os) v0 v1 v2 xs) (hl : xs.length ≤ 990) (hl2 : os.length ≤ 990) (hn : n0 ≤ w.heap.size) :
    Calls Tryd.prog 38 #[.pointer (some ⟨b, 0, none⟩), .string x] w (DoP n0 b v0 v1 v2 none w) := by
    have hlt : 0 < x.size := by omega
    have hd0 := UInt8.toNat_lt x[0]
    have HK := Lib.hid (fun w => skind_any x w)
    rw [hk] at HK
    clear hk
    have HP := Lib.hid (bs_popN h (by omega) (by omega))
    have H := Lib.hid h
    clear h
    go_enter Tryd.func38, Tryd.ntmps38
    go_wp2_with fail
    refine (HK.out w).mono ?_
    rintro e w' ⟨rfl, rfl⟩
    go_wp2_with fail
    refine HP.out.mono ?_
    rintro e w1 ⟨rfl, hg1⟩
    unfold nodeZ
    obtain ⟨w2, hw2⟩ : ∃ z, w1.alloc (.cells #[.int .u8 0, .int .u8 0, .slice none 0 0] 37) = z := ⟨_, rfl⟩
    have bw2 : C3 w2 w1.heap.size (.int .u8 0) (.int .u8 0) (.slice none 0 0) 37 := by rw [← hw2]; exact c3_new _ _ _ _ _
    have gw2 : w1.grownBy w2 none := by rw [← hw2]; exact World.grownBy_alloc _ _ _
    obtain ⟨w2s, hw2s⟩ : ∃ z, ((w2.setCell ⟨w1.heap.size, 0, none⟩ (.int .u8 0)).setCell ⟨w1.heap.size, 1, none⟩ (.int .u8 0)).setCell ⟨w1.heap.size, 2, none⟩ (.slice none 0 0) = z := ⟨_, rfl⟩
    have gw2s : w1.grownBy w2s none := by rw [← hw2s]; exact gr_laid3n gw2 (Nat.le_refl _) _ _ _
    have rw20 := bw2.c0
    have rw21 := bw2.c1
    have rw22 := bw2.c2
    have rw23 := bw2.f 0
    have rw24 := bw2.f 1
    have rw25 := bw2.f 2
    have bw2s : C3 w2s w1.heap.size (.int .u8 0) (.int .u8 0) (.slice none 0 0) 37 := by rw [← hw2s]; exact bw2.laid
    have g02 := hg1.trans gw2s
    have h2 := H.out.grown g02
    have HP2 := Lib.hid (bs_popN h2 (by omega) (by omega))
    have HG2 := Lib.hid g02
    have HY := Lib.hid bw2s
    clear hg1 gw2 gw2s bw2 bw2s h2 g02
    go_wp2_with fail
    refine HP2.out.mono ?_
    rintro e w3 ⟨rfl, hg3⟩
    have hy3 := HY.out.grown hg3 (by simp)
    unfold nodeZ
    obtain ⟨w4, hw4⟩ : ∃ z, w3.alloc (.cells #[.int .u8 0, .int .u8 0, .slice none 0 0] 37) = z := ⟨_, rfl⟩
    have bw4 : C3 w4 w3.heap.size (.int .u8 0) (.int .u8 0) (.slice none 0 0) 37 := by rw [← hw4]; exact c3_new _ _ _ _ _
    have gw4 : w3.grownBy w4 none := by rw [← hw4]; exact World.grownBy_alloc _ _ _
    obtain ⟨w4s, hw4s⟩ : ∃ z, ((w4.setCell ⟨w3.heap.size, 0, none⟩ (.int .u8 0)).setCell ⟨w3.heap.size, 1, none⟩ (.int .u8 0)).setCell ⟨w3.heap.size, 2, none⟩ (.slice none 0 0) = z := ⟨_, rfl⟩
    have gw4s : w3.grownBy w4s none := by rw [← hw4s]; exact gr_laid3n gw4 (Nat.le_refl _) _ _ _
    have rw40 := bw4.c0
    have rw41 := bw4.c1
    have rw42 := bw4.c2
    have rw43 := bw4.f 0
    have rw44 := bw4.f 1
    have rw45 := bw4.f 2
    have bw4s : C3 w4s w3.heap.size (.int .u8 0) (.int .u8 0) (.slice none 0 0) 37 := by rw [← hw4s]; exact bw4.laid
    have bx := bw4s
    have by8 := hy3.grown gw4s (by simp)
    obtain ⟨w5, hw5⟩ : ∃ z, w4s.drew.alloc (.cells #[.int .u8 0, .int .u8 0, .slice none 0 0, .int .u8 0, .int .u8 0, .slice none 0 0] 37) = z := ⟨_, rfl⟩
    have g5 : w4s.grownBy w5 none := by rw [← hw5]; exact (gr_drewN w4s 1 none).trans (World.grownBy_alloc w4s.drew _ none)
    have x5 := bx.grown g5 (by simp)
    have y5 := by8.grown g5 (by simp)
    have s0 := bx.c0
    have s1 := bx.c1
    have s2 := bx.c2
    have s3 := by8.c0
    have s4 := by8.c1
    have s5 := by8.c2
    have u0' := x5.c0
    have u1' := x5.c1
    have u2' := x5.c2
    have u3' := y5.c0
    have u4' := y5.c1
    have u5' := y5.c2
    have gall := ((HG2.out.trans hg3).trans gw4s).trans g5
    have h5 := H.out.grown gall
    have hsz := gall.size
    have HR := Lib.hid (fun (a c : Int) A0 k0 c0 => bs_pushAny (a := a) (c := c) (A0 := A0) (k0 := k0) (c0 := c0) h5 (by omega) (by omega))
    have HG := Lib.hid gall
    clear hg3 gw4 gw4s bw4 bw4s hy3 bx by8 x5 y5 g5 gall h5 hsz
    go_wp2_with fail
    go_region_law (go_simp
                   go_at_call 52
                   refine (HR.out _ _ _ _ _).mono ?_
                   rintro e w6 ⟨rfl, hc6⟩
                   have HC6 := Lib.hid hc6
                   clear hc6)
    all_goals
      go_wp2_with fail
      go_ret
      exact doP_no rfl rfl (bw_trans (Chg.grown HG.out) HC6.out (Fr3.refl _ _) (Fr3.refl _ _) (Fr3.refl _ _))

set_option maxRecDepth 100000 in
set_option maxHeartbeats 2000000 in
theorem sdo_two1 (n0 b : Nat) (x : ByteArray) (hs : x.size = 1) (c : Int) (hc : ((x[0].toNat : Nat) : Int) = c) (hk : kS x = 43) (t : Tm) (os : List Out) (v0 v1 v2 : Value) (xs : List (Int × Int × Value)) (w : World) (h : BS w n0 b ([t], os) v0 v1 v2 xs) (hl : xs.length ≤ 990) (hl2 : os.length ≤ 990) (hn : n0 ≤ w.heap.size) :
    Calls Tryd.prog 38 #[.pointer (some ⟨b, 0, none⟩), .string x] w (DoP n0 b v0 v1 v2 none w) := by
    have hlt : 0 < x.size := by omega
    have hd0 := UInt8.toNat_lt x[0]
    have HK := Lib.hid (fun w => skind_any x w)
    rw [hk] at HK
    clear hk
    obtain ⟨xa, xc, A0, k0, c0, hcall⟩ := bs_popC h (by omega) (by omega)
    have HP := Lib.hid hcall
    have H := Lib.hid h
    clear h hcall
    go_enter Tryd.func38, Tryd.ntmps38
    go_wp2_with fail
    refine (HK.out w).mono ?_
    rintro e w' ⟨rfl, rfl⟩
    go_wp2_with fail
    refine HP.out.mono ?_
    rintro e w1 ⟨rfl, hc1, u0, xs', hob, hb1, hsn, _⟩
    obtain ⟨w2, hw2⟩ : ∃ z, w1.alloc (.cells #[.int .u8 xa, .int .u8 xc, .slice A0 k0 c0] 37) = z := ⟨_, rfl⟩
    have bw2 : C3 w2 w1.heap.size (.int .u8 xa) (.int .u8 xc) (.slice A0 k0 c0) 37 := by rw [← hw2]; exact c3_new _ _ _ _ _
    have gw2 : w1.grownBy w2 none := by rw [← hw2]; exact World.grownBy_alloc _ _ _
    have h2 := hb1.grown gw2
    have hlen := bs_len h2
    have hlen0 := bs_len H.out
    simp only [List.length_cons, List.length_nil] at hlen hlen0
    have HP2 := Lib.hid (bs_popN h2 (by omega) (by omega))
    have hcg : Chg (BW b v0 v1 v2) w' w2 := (hc1.mono (fun _ _ e => .inl e) : Chg (BW b v0 v1 v2) w' w1).trans (Chg.grown (wr := BW b v0 v1 v2) gw2) (fun _ _ e => e) (fun _ _ e => e)
    have HCG := Lib.hid hcg
    have HY := Lib.hid bw2
    have H2 := Lib.hid h2
    have HOB := Lib.hid hob
    have hszg := hcg.size
    have hxl : xs'.length ≤ 990 := by omega
    clear hc1 hb1 hsn gw2 bw2 h2 hlen hlen0 hcg hob
    go_wp2_with fail
    refine HP2.out.mono ?_
    rintro e w3 ⟨rfl, hg3⟩
    have hy3 := HY.out.grown hg3 (by simp)
    unfold nodeZ
    obtain ⟨w4, hw4⟩ : ∃ z, w3.alloc (.cells #[.int .u8 0, .int .u8 0, .slice none 0 0] 37) = z := ⟨_, rfl⟩
    have bw4 : C3 w4 w3.heap.size (.int .u8 0) (.int .u8 0) (.slice none 0 0) 37 := by rw [← hw4]; exact c3_new _ _ _ _ _
    have gw4 : w3.grownBy w4 none := by rw [← hw4]; exact World.grownBy_alloc _ _ _
    obtain ⟨w4s, hw4s⟩ : ∃ z, ((w4.setCell ⟨w3.heap.size, 0, none⟩ (.int .u8 0)).setCell ⟨w3.heap.size, 1, none⟩ (.int .u8 0)).setCell ⟨w3.heap.size, 2, none⟩ (.slice none 0 0) = z := ⟨_, rfl⟩
    have gw4s : w3.grownBy w4s none := by rw [← hw4s]; exact gr_laid3n gw4 (Nat.le_refl _) _ _ _
    have rw40 := bw4.c0
    have rw41 := bw4.c1
    have rw42 := bw4.c2
    have rw43 := bw4.f 0
    have rw44 := bw4.f 1
    have rw45 := bw4.f 2
    have bw4s : C3 w4s w3.heap.size (.int .u8 0) (.int .u8 0) (.slice none 0 0) 37 := by rw [← hw4s]; exact bw4.laid
    have bx := bw4s
    have by8 := hy3.grown gw4s (by simp)
    obtain ⟨w5, hw5⟩ : ∃ z, w4s.drew.alloc (.cells #[.int .u8 0, .int .u8 0, .slice none 0 0, .int .u8 xa, .int .u8 xc, .slice A0 k0 c0] 37) = z := ⟨_, rfl⟩
    have g5 : w4s.grownBy w5 none := by rw [← hw5]; exact (gr_drewN w4s 1 none).trans (World.grownBy_alloc w4s.drew _ none)
    have x5 := bx.grown g5 (by simp)
    have y5 := by8.grown g5 (by simp)
    have s0 := bx.c0
    have s1 := bx.c1
    have s2 := bx.c2
    have s3 := by8.c0
    have s4 := by8.c1
    have s5 := by8.c2
    have u0' := x5.c0
    have u1' := x5.c1
    have u2' := x5.c2
    have u3' := y5.c0
    have u4' := y5.c1
    have u5' := y5.c2
    have gall := (hg3.trans gw4s).trans g5
    have h5 := H2.out.grown gall
    have hsz := gall.size
    have HR := Lib.hid (fun (a c : Int) A0 k0 c0 => bs_pushAny (a := a) (c := c) (A0 := A0) (k0 := k0) (c0 := c0) h5 (by omega) (by omega))
    have HG := Lib.hid gall
    clear hg3 gw4 gw4s bw4 bw4s hy3 bx by8 x5 y5 g5 gall h5 hsz
    go_wp2_with fail
    go_region_law (go_simp
                   go_at_call 52
                   refine (HR.out _ _ _ _ _).mono ?_
                   rintro e w6 ⟨rfl, hc6⟩
                   have HC6 := Lib.hid hc6
                   clear hc6)
    all_goals
      go_wp2_with fail
      go_ret
      have hfu : Fr3 w' v0 u0 := fun g hg => .inl (HOB.out ▸ hg)
      exact doP_no rfl rfl (bw_trans (HCG.out.trans (Chg.grown (wr := BW b v0 v1 v2) HG.out) (fun _ _ e => e) (fun _ _ e => e)) HC6.out hfu (Fr3.refl _ _) (Fr3.refl _ _))

set_option maxRecDepth 100000 in
set_option maxHeartbeats 2000000 in
theorem sdo_two2 (n0 b : Nat) (x : ByteArray) (hs : x.size = 1) (c : Int) (hc : ((x[0].toNat : Nat) : Int) = c) (hk : kS x = 43) (t s : Tm) (ts : List Tm) (os : List Out) (v0 v1 v2 : Value) (xs : List (Int × Int × Value)) (w : World) (h : BS w n0 b (t :: s :: ts, os) v0 v1 v2 xs) (hl : xs.length ≤ 990) (hl2 : os.length ≤ 990) (hn : n0 ≤ w.heap.size) :
    Calls Tryd.prog 38 #[.pointer (some ⟨b, 0, none⟩), .string x] w (DoP n0 b v0 v1 v2 (some (.two c s t :: ts, os)) w) := by
    have hlt : 0 < x.size := by omega
    have hd0 := UInt8.toNat_lt x[0]
    have HK := Lib.hid (fun w => skind_any x w)
    rw [hk] at HK
    clear hk
    obtain ⟨xa, xc, A0, k0, c0, hcall⟩ := bs_popC h (by omega) (by omega)
    have HP := Lib.hid hcall
    have H := Lib.hid h
    clear h hcall
    go_enter Tryd.func38, Tryd.ntmps38
    go_wp2_with fail
    refine (HK.out w).mono ?_
    rintro e w' ⟨rfl, rfl⟩
    go_wp2_with fail
    refine HP.out.mono ?_
    rintro e w1 ⟨rfl, hc1, u0, xs', hob, hb1, hsn, _⟩
    obtain ⟨w2, hw2⟩ : ∃ z, w1.alloc (.cells #[.int .u8 xa, .int .u8 xc, .slice A0 k0 c0] 37) = z := ⟨_, rfl⟩
    have bw2 : C3 w2 w1.heap.size (.int .u8 xa) (.int .u8 xc) (.slice A0 k0 c0) 37 := by rw [← hw2]; exact c3_new _ _ _ _ _
    have gw2 : w1.grownBy w2 none := by rw [← hw2]; exact World.grownBy_alloc _ _ _
    have h2 := hb1.grown gw2
    have hlen := bs_len h2
    have hlen0 := bs_len H.out
    simp only [List.length_cons] at hlen hlen0
    obtain ⟨ya, yc, B0, j0, d0, hcall2⟩ := bs_popC h2 (by omega) (by omega)
    have HP2 := Lib.hid hcall2
    have hcg : Chg (BW b v0 v1 v2) w' w2 := (hc1.mono (fun _ _ e => .inl e) : Chg (BW b v0 v1 v2) w' w1).trans (Chg.grown (wr := BW b v0 v1 v2) gw2) (fun _ _ e => e) (fun _ _ e => e)
    have HCG := Lib.hid hcg
    have HY := Lib.hid bw2
    have H2 := Lib.hid h2
    have HSN := Lib.hid (hsn.grown gw2)
    have HOB := Lib.hid hob
    have hszg := hcg.size
    have HXL := Lib.hid hlen
    have HXL0 := Lib.hid hlen0
    clear hc1 hb1 hsn gw2 bw2 h2 hlen hlen0 hcg hob hcall2
    go_wp2_with fail
    refine HP2.out.mono ?_
    rintro e w3 ⟨rfl, hc3, u3, xs3, hob3, hb3, hsn3, hk3⟩
    have hy3 : C3 w3 w1.heap.size (.int .u8 xa) (.int .u8 xc) (.slice A0 k0 c0) 37 := by
      have h1 := HY.out
      unfold C3 at h1 ⊢
      refine (hc3.same _ (blk_lt h1) (fun e => ?_)).trans h1
      have h4 := H2.out.box
      unfold C3 at h4
      rw [← e, h1] at h4
      cases h4
    obtain ⟨w4, hw4⟩ : ∃ z, w3.alloc (.cells #[.int .u8 ya, .int .u8 yc, .slice B0 j0 d0] 37) = z := ⟨_, rfl⟩
    have bw4 : C3 w4 w3.heap.size (.int .u8 ya) (.int .u8 yc) (.slice B0 j0 d0) 37 := by rw [← hw4]; exact c3_new _ _ _ _ _
    have gw4 : w3.grownBy w4 none := by rw [← hw4]; exact World.grownBy_alloc _ _ _
    have bx := bw4
    have by8 := hy3.grown gw4 (by simp)
    obtain ⟨w5, hw5⟩ : ∃ z, w4.drew.alloc (.cells #[.int .u8 ya, .int .u8 yc, .slice B0 j0 d0, .int .u8 xa, .int .u8 xc, .slice A0 k0 c0] 37) = z := ⟨_, rfl⟩
    have g5 : w4.grownBy w5 none := by rw [← hw5]; exact (gr_drewN w4 1 none).trans (World.grownBy_alloc w4.drew _ none)
    have x5 := bx.grown g5 (by simp)
    have y5 := by8.grown g5 (by simp)
    have s0 := bx.c0
    have s1 := bx.c1
    have s2 := bx.c2
    have s3 := by8.c0
    have s4 := by8.c1
    have s5 := by8.c2
    have u0' := x5.c0
    have u1' := x5.c1
    have u2' := x5.c2
    have u3' := y5.c0
    have u4' := y5.c1
    have u5' := y5.c2
    have gall := gw4.trans g5
    have h5 := hb3.grown gall
    have hsz := gall.size
    have hsz3 := hc3.size
    have hsz4 := gw4.size
    have hlen5 := bs_len h5
    have hxl := HXL.out
    have hxl0 := HXL0.out
    simp only at hlen5
    have hrow : w5.ownsRow 0 37 3 (.slice (some ⟨w4.heap.size, 0, none⟩) 2 2) 2 (flat3 [(ya, yc, .slice B0 j0 d0), (xa, xc, .slice A0 k0 c0)]) := by rw [← hw5]; exact row_new (w := w4.drew) [(ya, yc, .slice B0 j0 d0), (xa, xc, .slice A0 k0 c0)] #[.int .u8 ya, .int .u8 yc, .slice B0 j0 d0, .int .u8 xa, .int .u8 xc, .slice A0 k0 c0] rfl rfl (by simp)
    have hne : ∀ g, (Value.slice (some ⟨w4.heap.size, 0, none⟩) 2 2).ownBlock = some g → u3.ownBlock ≠ some g := fun g hg => by cases hg; exact own_new_ne hb3.st hsz4
    have hsn5 : SN w5 (fun k => u3.ownBlock ≠ some k) (.two c s t) (c, 0, .slice (some ⟨w4.heap.size, 0, none⟩) 2 2) :=
      ⟨rfl, rfl, (ya, yc, .slice B0 j0 d0), (xa, xc, .slice A0 k0 c0), hrow, hne, by rw [hob3]; exact hsn3.grown gall, by rw [hob3, HOB.out]; exact (hk3 _ _ _ HSN.out).grown gall⟩
    have HR := Lib.hid (bs_pushC h5 hsn5 (by omega) (by omega))
    have HC3 := Lib.hid hc3
    have HG := Lib.hid gall
    have HOB3 := Lib.hid hob3
    clear hc3 hb3 hsn3 hk3 gw4 bw4 hy3 bx by8 x5 y5 g5 gall h5 hsz hsz3 hsz4 hlen5 hxl hxl0 hrow hne hsn5 hob3
    go_wp2_with fail
    go_region_law (go_simp
                   go_at_call 52
                   refine HR.out.mono ?_
                   rintro e w6 ⟨rfl, hc6, u6, xs6, hb6, hf6⟩
                   have HC6 := Lib.hid hc6
                   have HB6 := Lib.hid hb6
                   have HF6 := Lib.hid hf6
                   clear hc6 hb6 hf6)
    all_goals
      go_wp2_with fail
      go_ret
      have hfu : Fr3 w' v0 u3 := fun g hg => .inl (by rw [HOB3.out, HOB.out] at hg; exact hg)
      have hcg2 : Chg (BW b v0 v1 v2) w' w5 := HCG.out.trans ((HC3.out.mono (fun _ _ e => .inl e) : Chg (BW b v0 v1 v2) w2 w3).trans (Chg.grown (wr := BW b v0 v1 v2) HG.out) (fun _ _ e => e) (fun _ _ e => e)) (fun _ _ e => e) (fun _ _ e => e)
      exact doP_yes rfl rfl (bw_trans hcg2 HC6.out hfu (Fr3.refl _ _) (Fr3.refl _ _)) HB6.out (hfu.trans HF6.out hcg2.size) (Fr3.refl _ _) (Fr3.refl _ _)
end

section
open Go.RowKit

set_option maxRecDepth 100000 in
set_option maxHeartbeats 1000000 in
theorem sdo_fin (n0 b : Nat) (x : ByteArray) (hs : x.size = 1) (c : Int) (hc : ((x[0].toNat : Nat) : Int) = c) (hk : kS x = 93) (r : Option MS) (v0 v1 v2 : Value) (w : World) (hE : Calls Tryd.prog 54 #[.pointer (some ⟨b, 0, none⟩), .int .u8 c] w (DoP n0 b v0 v1 v2 r w)) :
    Calls Tryd.prog 38 #[.pointer (some ⟨b, 0, none⟩), .string x] w (DoP n0 b v0 v1 v2 r w) := by
  have hlt : 0 < x.size := by omega
  have hd0 := UInt8.toNat_lt x[0]
  have HK := Lib.hid (fun w => skind_any x w)
  rw [hk] at HK
  have HE := Lib.hid hE
  clear hk hE
  go_enter Tryd.func38, Tryd.ntmps38
  go_wp2_with fail
  refine (HK.out w).mono ?_
  rintro e w' ⟨rfl, rfl⟩
  go_wp2_with fail
  refine HE.out.mono ?_
  rintro e w1 hd
  obtain rfl := doP_ret hd
  have HD := Lib.hid hd
  clear hd
  go_wp2_with fail
  go_ret
  exact HD.out

theorem insOf_cases {x : ByteArray} {i : Ins} (h : insOf x = some i) : (x.size = 1 ∧ ins1 (ba x 0) = some i) ∨ (x.size = 2 ∧ (ba x 0 = 91 ∨ ba x 0 = 123) ∧ isL (ba x 1) = true ∧ i = .beg (ba x 0) (ba x 1)) := by
  unfold insOf at h
  by_cases h1 : x.size = 1
  · rw [if_pos h1] at h
    exact .inl ⟨h1, h⟩
  · rw [if_neg h1] at h
    by_cases h2 : x.size = 2 ∧ (ba x 0 = 91 ∨ ba x 0 = 123) ∧ isL (ba x 1) = true
    · rw [if_pos h2] at h
      cases h
      exact .inr ⟨h2.1, h2.2.1, h2.2.2, rfl⟩
    · rw [if_neg h2] at h
      cases h
theorem ins1_is {c : Int} {i : Ins} (h : ins1 c = some i) : (isD c = true ∧ i = .dig c) ∨ (isD c = false ∧ i = .var c) ∨ i = .pre c ∨ i = .two c ∨ i = .fin c := by
  unfold ins1 at h
  cases hD : isD c with
  | true => rw [hD, if_pos rfl] at h; cases h; exact .inl ⟨rfl, rfl⟩
  | false =>
    rw [hD, if_neg (by simp)] at h
    split at h
    · cases h; exact .inr (.inl ⟨rfl, rfl⟩)
    · split at h
      · cases h; exact .inr (.inr (.inl rfl))
      · split at h
        · cases h; exact .inr (.inr (.inr (.inl rfl)))
        · split at h
          · cases h; exact .inr (.inr (.inr (.inr rfl)))
          · cases h

theorem sdo_any (n0 b : Nat) (x : ByteArray) (n : Nat) (m : MS) (hT : Told7 n m) (hn : n ≤ 900) (v0 v1 v2 : Value) (xs : List (Int × Int × Value)) (w : World) (h : BS w n0 b m v0 v1 v2 xs) (hw : n0 ≤ w.heap.size) :
    Calls Tryd.prog 38 #[.pointer (some ⟨b, 0, none⟩), .string x] w (DoP n0 b v0 v1 v2 (stepB x m) w) := by
  have hl : xs.length ≤ 990 := by
    have h1 := bs_len h
    have h2 := hT.hg
    rw [hgt_eq] at h2
    omega
  have hl2 : m.2.length ≤ 990 := by have := hT.lv; omega
  have hok := hT.ok
  clear hT
  unfold stepB
  cases hi : insOf x with
  | none => exact sdo_bad n0 b x (by unfold kS; rw [hi]) v0 v1 v2 w
  | some i =>
    obtain ⟨ts, os⟩ := m
    simp only at hl2
    rcases insOf_cases hi with ⟨hs, h1⟩ | ⟨hs, h0, hv, rfl⟩
    · have hlt : 0 < x.size := by omega
      have hb := ba_in hlt
      have hkk : kS x = match some i with | none => 0 | some (.dig _) => 97 | some (.var _) => 97 | some (.pre _) => 83 | some (.two _) => 43 | some (.beg _ _) => 91 | some (.fin _) => 93 := by unfold kS; rw [hi]; rfl
      obtain ⟨c, hc⟩ : ∃ c : Int, ((x[0].toNat : Nat) : Int) = c := ⟨_, rfl⟩
      rw [hb, hc] at h1
      rcases ins1_is h1 with ⟨hd, rfl⟩ | ⟨hd, rfl⟩ | rfl | rfl | rfl
      · exact sdo_leaf n0 b x hs (.dig c) c hc hkk (.inl ⟨hd, rfl⟩) (ts, os) v0 v1 v2 xs w h hl hw
      · exact sdo_leaf n0 b x hs (.var c) c hc hkk (.inr ⟨hd, rfl⟩) (ts, os) v0 v1 v2 xs w h hl hw
      · exact sdo_pre n0 b x hs c hc hkk (ts, os) v0 v1 v2 xs w h hl hl2 hw
      · match ts with
        | [] => exact sdo_two0 n0 b x hs c hc hkk os v0 v1 v2 xs w h hl hl2 hw
        | [t] => exact sdo_two1 n0 b x hs c hc hkk t os v0 v1 v2 xs w h hl hl2 hw
        | t :: s :: ts => exact sdo_two2 n0 b x hs c hc hkk t s ts os v0 v1 v2 xs w h hl hl2 hw
      · refine sdo_fin n0 b x hs c hc hkk _ v0 v1 v2 w ?_
        match os with
        | [] =>
          have e : step (.fin c) (ts, []) = none := by
            match ts with
            | [] => rfl
            | [_] => rfl
            | _ :: _ :: _ => rfl
          simp only [e]
          exact send_none n0 b c ts v0 v1 v2 xs w h
        | o :: os =>
          have ho := hok.2 o (by simp)
          simp only [List.length_cons] at hl2
          match ts with
          | [y] =>
            by_cases hcc : o.c + 2 = c
            · have e : step (.fin c) ([y], o :: os) = some (.loop o.c o.v o.over y :: o.low, os) := by simp only [step]; rw [if_pos hcc]
              simp only [e]
              exact send_ok n0 b c y o os v0 v1 v2 xs w h hl (by omega) hw ho.1 ho.2.1 hcc
            · have e : step (.fin c) ([y], o :: os) = none := by simp only [step]; rw [if_neg hcc]
              simp only [e]
              exact send_bad n0 b c [y] o os v0 v1 v2 xs w h hl (by omega) ho.1 ho.2.1 (.inl hcc)
          | [] => exact send_bad n0 b c [] o os v0 v1 v2 xs w h hl (by omega) ho.1 ho.2.1 (.inr (by simp))
          | y :: z :: ts => exact send_bad n0 b c (y :: z :: ts) o os v0 v1 v2 xs w h hl (by omega) ho.1 ho.2.1 (.inr (by simp))
    · have hkk : kS x = 91 := by unfold kS; rw [hi]
      match ts with
      | [] => exact sdo_beg0 n0 b x hkk os v0 v1 v2 xs w h hl hl2
      | t :: ts => exact sdo_beg1 n0 b x hs (ba x 0) (ba x 1) rfl rfl hkk t ts os v0 v1 v2 xs w h hl hl2 hw
end

end Go.Proofs.YtfaeolnmkdjhaaaDoor
