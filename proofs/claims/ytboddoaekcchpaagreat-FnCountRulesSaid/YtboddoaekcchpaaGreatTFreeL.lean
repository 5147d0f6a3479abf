/- freeIn of the program at loops; at whatever term. -/
import Derived.Test.YtboddoaekcchpaaGreatTSet
import Derived.Test.YtboddoaekcchpaaGreatTNol
import Derived.Test.YtboddoaekcchpaaGreatTOkb
import Derived.Test.YtboddoaekcchpaaGreatKids
import Derived.Test.YtboddoaekcchpaaGreatTSizeF
import Derived.Deep.RegionLaw
namespace Go.Proofs.YtboddoaekcchpaaGreat
section
open Go.RowKit Go.Maps

/-- How freeIn ends: with a new set. -/
def FreeP (t : Tm) (w : World) (e : Ending) (w' : World) : Prop := ∃ b, e = .returned (.map (some b)) ∧ w.heap.size ≤ b ∧ w.grownBy w' none ∧ VSet w' b t.size t.free

theorem PT.cells {w : World} {S : Nat → Prop} : ∀ (t : Tm) (v : Value), PT w S t v → PT w (fun b => ∃ cs ty, w.heap[b]? = some (.cells cs ty (0, 0))) t v
  | .dig _, _, h => h
  | .var _, _, h => h
  | .pre _ s, _, ⟨b, x, hv, _, hh, h1⟩ => ⟨b, x, hv, ⟨_, _, hh⟩, hh, PT.cells s x h1⟩
  | .two _ s t, _, ⟨b, x, y, hv, _, hh, h1, h2⟩ => ⟨b, x, y, hv, ⟨_, _, hh⟩, hh, PT.cells s x h1, PT.cells t y h2⟩
  | .loop _ _ s t, _, ⟨b, x, y, hv, _, hh, h1, h2⟩ => ⟨b, x, y, hv, ⟨_, _, hh⟩, hh, PT.cells s x h1, PT.cells t y h2⟩
/-- A term stays where a set is written. -/
theorem PT.overSet {w w' : World} {S : Nat → Prop} {t : Tm} {v : Value} {b m : Nat} {f : Int → Bool} (h : PT w S t v) (hs : VSet w b m f) (hg : w.grownBy w' (some b)) : PT w' (fun _ => True) t v :=
  PT.keep (fun x (hx : ∃ cs ty, w.heap[x]? = some (.cells cs ty (0, 0))) hl => hg.block x hl (fun e => by
    obtain ⟨cs, ty, hx⟩ := hx
    obtain ⟨D, ⟨es, cl, hb, _⟩, _⟩ := hs
    cases e
    rw [hb] at hx
    cases hx)) (fun _ _ _ => trivial) t v (PT.cells t v h)

def Tm.isVar : Tm → Bool
  | .var _ => true
  | _ => false
theorem ta_novar {w : World} {S : Nat → Prop} {t : Tm} {ty : TypeId} {pv : Value} (h : PT w S t (.iface ty pv)) (hl : t.isVar = false) (xT : TypeId) (u : World) :
    (Instr.typeAssert (.iface ty pv) xT 51 true).run Tryz.prog u = .ok (.tuple #[.int .u8 0, .bool false]) u := by
  cases t with
  | dig c => cases h; exact ta_dig_var _ _ _
  | var c => cases hl
  | pre c s => obtain ⟨b, x, hv, _⟩ := h; cases hv; exact ta_pre_var _ _ _
  | two c s t => obtain ⟨b, x, y, hv, _⟩ := h; cases hv; exact ta_two_var _ _ _
  | loop c i s t => obtain ⟨b, x, y, hv, _⟩ := h; cases hv; exact ta_loop_var _ _ _
theorem free_kids {t : Tm} (h1 : t.isVar = false) (h2 : t.isLoop = false) (v : Int) : t.free v = t.kids.any (fun k => k.free v) := by
  cases t with
  | dig c => rfl
  | var c => cases h1
  | pre c s => simp [Tm.free, Tm.kids]
  | two c s t => simp [Tm.free, Tm.kids]
  | loop c i s t => cases h2

set_option maxRecDepth 100000 in
set_option maxHeartbeats 1000000 in
theorem free_var (c : Int) (hv : isV c = true) (w : World) :
    Calls Tryz.prog 36 #[.iface 51 (.int .u8 c)] w (FreeP (.var c) w) := by
  have hmm := @run_makeMap Tryz.prog
  have ht := fun xT u => ta_var_var (.int .u8 c) xT u
  have hkey := keyV (vb hv).1 (vb hv).2
  have own0 := World.ownsMap_made w Tryz.prog 51 (plainElem (H := Unit) Tryz.prog 4)
  clear hv
  go_enter Tryz.func36, Tryz.ntmps36
  go_wp2_with (at_mapUpdate; refine wpList_mapUpdate_own _ rfl _ _ _ TB rfl 51 4 keyedV Tryz.underlying69 _ w.heap.size 0 _ rfl own0 (by decide) _ _ _ rfl rfl hkey _ [] (plainElem_bool Tryz.underlying4 true) ?_)
  intro w1 own1 hg1
  have HO := Lib.hid own1
  have HG := Lib.hid (gr_new (World.grownBy_alloc w (.map #[] 0) none) hg1 (Nat.le_refl _))
  clear own0 own1 hg1 hmm
  go_wp2_with fail
  go_ret
  refine ⟨_, rfl, Nat.le_refl _, HG.out, _, HO.out, ?_⟩
  have h0 : SReads (.map []) (fun _ => false) := fun v _ _ => ⟨rfl, fun h => by cases h⟩
  have := h0.put ⟨_, rfl⟩ c
  rw [show (Tm.var c).free = (fun v => decide (c = v) || false) from by funext v; simp [Tm.free]]
  exact this

set_option maxRecDepth 100000 in
set_option maxHeartbeats 4000000 in
theorem free_kid (t : Tm) (S : Nat → Prop) (ty : TypeId) (pv : Value) (w : World) (h1 : t.isVar = false) (h2 : t.isLoop = false) (hsz : t.size ≤ 1000000) (h : PT w S t (.iface ty pv))
    (ih : ∀ k ∈ t.kids, ∀ (S : Nat → Prop) (v : Value) (u : World), PT u S k v → Calls Tryz.prog 36 #[v] u (FreeP k u)) :
    Calls Tryz.prog 36 #[.iface ty pv] w (FreeP t w) := by
  have hmm := @run_makeMap Tryz.prog
  have HI := Lib.hid ih
  have ht1 := ta_novar h h1
  have ht2 := ta_noloop h h2
  have hg0 := World.grownBy_alloc w (.map #[] 0) none
  have hm := method_parts (h.grown hg0)
  have hrun := run_parts t pv
  have HK := Lib.hid (parts_any t _ ty pv _ (h.grown hg0))
  have HKS := Lib.hid (csum_kids t)
  have HFK := Lib.hid (free_kids h1 h2)
  have HN0 := Lib.hid (VSet.new w)
  have HG0 := Lib.hid hg0
  have HSZ := Lib.hid hsz
  clear h ih h1 h2 hg0 hsz
  go_enter Tryz.func36, Tryz.ntmps36
  go_wp2_with fail
  refine HK.out.mono ?_
  rintro e w1 ⟨hg1, sv, xs, rfl, ho, ha⟩
  obtain ⟨A, k, c, rfl⟩ := own_form ho
  obtain ⟨hk, hkc, hrow⟩ := orow ho
  have hlen := All2.length _ _ ha
  have HKL := Lib.hid hk
  have HLEN := Lib.hid hlen
  have HROW := Lib.hid hrow
  have HO := Lib.hid ho
  have HA := Lib.hid ha
  have HG1 := Lib.hid hg1
  have HN1 := Lib.hid (HN0.out.grown hg1 (by simp))
  have hk2 : k ≤ 2 := by have := kids_len t; omega
  have hwb : w.heap.size < w1.heap.size := HN1.out.lt
  clear hg1 ho ha hk hlen hrow hm hrun ht1 ht2 hmm
  go_wp2_with fail
  go_loopw [14] (fun i wr => ∃ j : Nat, j ≤ k ∧ i = .int .i64 j ∧ Hid (VSet wr w.heap.size (csum (t.kids.take j)) (fun v => (t.kids.take j).any (fun k => k.free v))) ∧ Hid (w1.grownBy wr (some w.heap.size))) (fun i _ => k - (intOf i).toNat)
  case atStart => exact ⟨0, Nat.zero_le _, rfl, Lib.hid (HN1.out.as (fun v => by simp)), Lib.hid (gr_refl _ _)⟩
  case round =>
    obtain ⟨j, hj, rfl, hvs, hgr⟩ := hrel
    by_cases hlt : j < k
    · obtain ⟨g, rfl, hgb, hg1, hcell⟩ := HROW.out (by omega)
      obtain ⟨tj, xj, htj, hxj, hpj⟩ := HA.out.get (j := j) (by have := HKL.out; omega)
      have hgb2 : w.heap.size < g := by rw [World.size_alloc] at hgb; omega
      have hc := hgr.out.cell (hcell j xj hxj) (by simp; omega)
      have HP : Hid (PT wr (fun _ => True) tj xj) := Lib.hid ((hpj.grown HG1.out).overSet HN1.out hgr.out)
      have hst := csum_step htj
      have hroom : csum (t.kids.take j) + tj.size ≤ 1000000 := by
        have hlq := csum_take t.kids (j + 1)
        have hks2 := HKS.out
        have hs2 := HSZ.out
        omega
      have HST := Lib.hid hst
      have HRM := Lib.hid hroom
      have HANY : Hid (∀ v, ((t.kids.take j).any (fun k => k.free v) || tj.free v) = (t.kids.take (j + 1)).any (fun k => k.free v)) := Lib.hid (fun v => by
        rw [← take_snoc' htj, List.any_append]
        simp)
      have HCALL := Lib.hid (HI.out tj (List.mem_of_getElem? htj) _ xj wr HP.out)
      have hwr : w.heap.size < wr.heap.size := hvs.out.lt
      clear hpj htj hxj hcell hst hroom hg1 hgb
      go_wp2_with fail
      refine HCALL.out.mono ?_
      rintro e w2 ⟨b2, rfl, hb2, hg2, hv2⟩
      have HG2 := Lib.hid hg2
      have HC := Lib.hid (copy_any w.heap.size b2 _ _ _ _ w2 (hvs.out.grown hg2 (by simp)) hv2 (by omega) HRM.out)
      clear hg2 hv2 hb2 hc
      go_wp2_with fail
      refine HC.out.mono ?_
      rintro e w3 ⟨rfl, hv3, hg3⟩
      have HV3 := Lib.hid hv3
      have HG3 := Lib.hid hg3
      clear hv3 hg3
      go_wp2_with fail
      go_roundw
      case rel => exact ⟨j + 1, by omega, by go_num, Lib.hid (by have := HV3.out.as HANY.out; rw [HST.out]; exact this), Lib.hid ((hgr.out.trans (⟨HG2.out.os, HG2.out.tape, HG2.out.output, HG2.out.size, fun k hk _ => HG2.out.block k hk (by simp)⟩ : wr.grownBy w2 (some w.heap.size))).trans HG3.out)⟩
      case measure => simp [intOf]; omega
    · have hjk : j = k := by omega
      have HJ := Lib.hid hjk
      clear hjk
      go_wp2_with fail
      go_ret
      have et : t.kids.take j = t.kids := List.take_of_length_le (by rw [HLEN.out, HJ.out, HKL.out]; exact Nat.le_refl _)
      have hv := hvs.out
      rw [et] at hv
      exact ⟨_, rfl, Nat.le_refl _, gr_new (HG0.out.trans HG1.out) hgr.out (Nat.le_refl _), (hv.mono (by have := HKS.out; omega)).as (fun v => (HFK.out v).symm)⟩
end

section
open Go.RowKit Go.Maps

theorem VSet.del {w' : World} {D : DataW Unit} {b m : Nat} {f : Int → Bool} {x : Int} (h : w'.ownsMap Tryz.prog 51 (plainElem Tryz.prog 4) b m (D.del (.int .u8 x))) (hr : SReads D f) : VSet w' b m (fun v => f v && decide (x ≠ v)) := ⟨_, h, hr.del x⟩

set_option maxRecDepth 100000 in
set_option maxHeartbeats 4000000 in
theorem free_loop (c i : Int) (s t : Tm) (S : Nat → Prop) (g : Nat) (x y : Value) (w : World) (hi0 : 0 ≤ i) (hi1 : i ≤ 255) (hsz : s.size + t.size ≤ 1000000)
    (hh : w.heap[g]? = some (.cells #[.int .u8 c, .int .u8 i, x, y] 97 (0, 0))) (hx : PT w S s x)
    (ih1 : ∀ (S : Nat → Prop) (v : Value) (u : World), PT u S s v → Calls Tryz.prog 36 #[v] u (FreeP s u))
    (ih2 : ∀ u : World, w.grownBy u none → Calls Tryz.prog 36 #[y] u (FreeP t u)) :
    Calls Tryz.prog 36 #[.iface 94 (.pointer (some ⟨g, 0, none⟩))] w (FreeP (.loop c i s t) w) := by
  have hmm := @run_makeMap Tryz.prog
  have ht2 := fun xT u => ta_loop_var (.pointer (some ⟨g, 0, none⟩)) xT u
  have ht5 := fun xT u => ta_loop_loop (.pointer (some ⟨g, 0, none⟩)) xT u
  have HG0 := Lib.hid (World.grownBy_alloc w (.map #[] 0) none)
  have c1 := HG0.out.cell (show w.cell? ⟨g, 1, none⟩ = some (.int .u8 i) from cell_of_row w g 1 _ _ (0, 0) hh) (by simp)
  have c2 := HG0.out.cell (show w.cell? ⟨g, 2, none⟩ = some x from cell_of_row w g 2 _ _ (0, 0) hh) (by simp)
  have c3 := HG0.out.cell (show w.cell? ⟨g, 3, none⟩ = some y from cell_of_row w g 3 _ _ (0, 0) hh) (by simp)
  have HI1 := Lib.hid ih1
  have HI2 := Lib.hid ih2
  have HX := Lib.hid (hx.grown HG0.out)
  have hgl := blk_lt hh
  have hkey := keyV hi0 hi1
  have HC2 := Lib.hid (HI2.out _ HG0.out)
  clear ih1 ih2 hh hx
  go_enter Tryz.func36, Tryz.ntmps36
  go_wp2_with fail
  refine HC2.out.mono ?_
  rintro e w1 ⟨b1, rfl, hb1, hg1, D1, ho1, hr1⟩
  have HG1 := Lib.hid hg1
  have d1 := hg1.cell c1 (by simp)
  have d2 := hg1.cell c2 (by simp)
  have HR1 := Lib.hid hr1
  have HB1 : Hid (w.heap.size < b1) := Lib.hid (by rw [World.size_alloc] at hb1; omega)
  clear hg1 hr1 hb1 c1 c2 c3 hmm
  go_wp2_with (at_delete; refine wpList_delete_own _ rfl _ _ TB 51 rfl 4 keyedV Tryz.underlying69 _ b1 _ D1 rfl ho1 _ _ rfl hkey ?_)
  intro w2 hown2 hturn2
  have hgb1 : g ≠ b1 := by have := HB1.out; omega
  have HS2 := Lib.hid (VSet.del hown2 HR1.out)
  have hg2 := hturn2.grown
  have e2 := hg2.cell d2 (by simp; exact hgb1)
  have HG2 := Lib.hid hg2
  have HX2 : Hid (PT w2 (fun _ => True) s x) := Lib.hid (PT.overSet (HX.out.grown HG1.out) ⟨D1, ho1, HR1.out⟩ hg2)
  have HC1 := Lib.hid (HI1.out _ x w2 HX2.out)
  clear ho1 hown2 hturn2 hg2 d1 d2 hkey
  go_wp2_with fail
  refine HC1.out.mono ?_
  rintro e w3 ⟨b2, rfl, hb2, hg3, hv3⟩
  have hb1l : b1 < w2.heap.size := HS2.out.lt
  have HG3 := Lib.hid hg3
  have HC := Lib.hid (copy_any b1 b2 _ _ _ _ w3 (HS2.out.grown hg3 (by simp)) hv3 (by omega) (by omega))
  clear hg3 hv3 hb2
  go_wp2_with fail
  refine HC.out.mono ?_
  rintro e w4 ⟨rfl, hv4, hg4⟩
  have HV4 := Lib.hid hv4
  have HG4 := Lib.hid hg4
  clear hv4 hg4
  go_wp2_with fail
  go_ret
  have hle : w.heap.size ≤ b1 := by have := HB1.out; omega
  refine ⟨_, rfl, hle, gr_new ((gr_new (HG0.out.trans HG1.out) HG2.out hle).trans HG3.out) HG4.out hle, (HV4.out.mono (by simp only [Tm.size]; omega)).as (fun v => ?_)⟩
  simp only [Tm.free]
  cases s.free v <;> cases t.free v <;> simp

theorem free_any : ∀ (n : Nat) (t : Tm) (S : Nat → Prop) (v : Value) (w : World), t.size ≤ n → n ≤ 1000000 → t.Ok → PT w S t v → Calls Tryz.prog 36 #[v] w (FreeP t w)
  | 0, t, _, _, _, hn, _, _, _ => by have := t.size_pos; omega
  | n + 1, t, S, v, w, hn, hn2, ho, h => by
    by_cases h1 : t.isVar = true
    · cases t <;> try cases h1
      rename_i c
      cases h
      exact free_var c ho w
    · by_cases h2 : t.isLoop = true
      · cases t <;> try cases h2
        rename_i c i s t
        obtain ⟨b, x, y, rfl, _, hh, hx, hy⟩ := h
        simp only [Tm.size] at hn
        exact free_loop c i s t S b x y w (lb ho.2.1).1 (lb ho.2.1).2 (by omega) hh hx (fun S v u hu => free_any n s S v u (by omega) (by omega) ho.2.2.1 hu)
          (fun u hu => free_any n t S y u (by omega) (by omega) ho.2.2.2 (hy.grown hu))
      · obtain ⟨ty, pv, rfl⟩ := h.iface
        refine free_kid t S ty pv w (by simpa using h1) (by simpa using h2) (by omega) h (fun k hk S v u hu => ?_)
        obtain ⟨j, hj, rfl⟩ := List.getElem_of_mem hk
        have hst := csum_step (List.getElem?_eq_getElem hj)
        have hlq := csum_take t.kids (j + 1)
        have hks := csum_kids t
        exact free_any n _ S v u (by omega) (by omega) (kids_ok' ho (List.getElem_mem hj)) hu
end

end Go.Proofs.YtboddoaekcchpaaGreat
