/- What usesOf of the program does: how often a variable stands in a term where it is not bound, twice within second parts of loops. -/
import Derived.Test.YtboddoaekcchpaaGreatAri
import Derived.Test.YtboddoaekcchpaaGreatTmN
import Derived.Test.YtboddoaekcchpaaGreatTFreeL
namespace Go.Proofs.YtboddoaekcchpaaGreat
open Go.RowKit

/-- How often a variable stands in some parts. -/
def usum (v : Int) : List Tm → Nat
  | [] => 0
  | t :: l => t.uses v + usum v l
theorem usum_kids {t : Tm} (v : Int) (h1 : t.isVar = false) (h2 : t.isLoop = false) : t.uses v = usum v t.kids := by
  cases t with
  | dig c => rfl
  | var c => cases h1
  | pre c s => simp [Tm.uses, Tm.kids, usum]
  | two c s t => simp [Tm.uses, Tm.kids, usum]
  | loop c i s t => cases h2
theorem usum_step (v : Int) : ∀ {l : List Tm} {j : Nat} {t : Tm}, l[j]? = some t → usum v (l.take (j + 1)) = usum v (l.take j) + t.uses v
  | [], _, _, h => by simp at h
  | a :: l, 0, t, h => by simp at h; subst h; simp [usum]
  | a :: l, j + 1, t, h => by
    have := usum_step v (l := l) (j := j) (by simpa using h)
    simp only [List.take_succ_cons, usum, this]; omega
theorem usum_take (v : Int) (l : List Tm) (j : Nat) : usum v (l.take j) ≤ usum v l := by
  induction l generalizing j with
  | nil => simp [usum]
  | cons a l ih =>
    cases j with
    | zero => simp [usum]
    | succ j => simp only [List.take_succ_cons, usum]; have := ih j; omega

/-- How it ends. -/
def UseP (x : Nat) (w : World) (e : Ending) (w' : World) : Prop := e = .returned (.int .i64 (x : Int)) ∧ w.grownBy w' none

set_option maxRecDepth 100000 in
set_option maxHeartbeats 2000000 in
theorem uses_any (v : Int) : ∀ (n : Nat) (t : Tm) (S : Nat → Prop) (x : Value) (w : World), t.size ≤ n → t.uses v ≤ 1000000 → PT w S t x →
    Calls Tryz.prog 120 #[.int .u8 v, x] w (UseP (t.uses v) w)
  | 0, t, _, _, _, hn, _, _ => by have := t.size_pos; omega
  | n + 1, t, S, x, w, hn, hu, h => by
    have HI := Lib.hid (uses_any v n)
    obtain ⟨ty, pv, rfl⟩ := h.iface
    cases hvr : t.isVar with
    | true =>
      cases t <;> try cases hvr
      rename_i c
      cases h
      have hta := fun xT u => ta_var_var (.int .u8 c) xT u
      have HO := Lib.hid (fun w => oneif_any (c == v) w)
      have HU : Hid ((Tm.var c).uses v = if (c == v) = true then 1 else 0) := Lib.hid (by simp [Tm.uses])
      obtain ⟨z, hz⟩ : ∃ z : Int, (if (c == v) = true then (1 : Int) else 0) = z := ⟨_, rfl⟩
      have HZ : Hid (((Tm.var c).uses v : Int) = z) := Lib.hid (by rw [HU.out, ← hz]; split <;> rfl)
      simp only [hz] at HO
      clear hn hu hz
      go_enter Tryz.func120, Tryz.ntmps120
      go_wp2_with fail
      refine (HO.out _).mono ?_
      rintro e w1 ⟨rfl, rfl⟩
      go_wp2_with fail
      go_ret
      refine ⟨?_, gr_refl _ _⟩
      rw [HZ.out]
      rfl
    | false =>
      cases hl : t.isLoop with
      | true =>
        cases t <;> try cases hl
        rename_i c i s t
        obtain ⟨b, x, y, hv, _, hh, hx, hy⟩ := h
        cases hv
        have hta1 := fun xT u => ta_loop_var (.pointer (some ⟨b, 0, none⟩)) xT u
        have hta2 := fun xT u => ta_loop_loop (.pointer (some ⟨b, 0, none⟩)) xT u
        have c1 : w.cell? ⟨b, 1, none⟩ = some (.int .u8 i) := cell_of_row w b 1 _ _ (0, 0) hh
        have c2 : w.cell? ⟨b, 2, none⟩ = some x := cell_of_row w b 2 _ _ (0, 0) hh
        have C3 := Lib.hid (show w.cell? ⟨b, 3, none⟩ = some y from cell_of_row w b 3 _ _ (0, 0) hh)
        have C1 := Lib.hid c1
        obtain ⟨tx, px, rfl⟩ := hx.iface
        obtain ⟨t2, p2, rfl⟩ := hy.iface
        have HX := Lib.hid hx
        have HY := Lib.hid hy
        simp only [Tm.size] at hn
        simp only [Tm.uses] at hu ⊢
        have HC1 := Lib.hid (fun (u : World) (hg : w.grownBy u none) => HI.out s S _ u (by omega) (by omega) (HX.out.grown hg))
        have HC2 := Lib.hid (fun (u : World) (hg : w.grownBy u none) (hu2 : t.uses v ≤ 1000000) => HI.out t S _ u (by omega) hu2 (HY.out.grown hg))
        obtain ⟨z1, hz1⟩ : ∃ z, s.uses v = z := ⟨_, rfl⟩
        obtain ⟨z2, hz2⟩ : ∃ z, t.uses v = z := ⟨_, rfl⟩
        rw [hz1] at HC1 hu ⊢
        rw [hz2] at HC2 hu ⊢
        clear hh hx hy hn hz1 hz2
        by_cases hiv : i = v
        · have hne : (i != v) = false := by simp [hiv]
          rw [if_pos hiv] at hu ⊢
          clear hiv
          go_enter Tryz.func120, Tryz.ntmps120
          go_wp2_with fail
          refine (HC1.out _ (gr_refl _ _)).mono ?_
          rintro e w1 ⟨rfl, hg1⟩
          have HG1 := Lib.hid hg1
          have c1 := hg1.cell C1.out (by simp)
          clear hg1
          go_wp2_with fail
          go_ret
          exact ⟨rfl, HG1.out⟩
        · have hne : (i != v) = true := by simp [hiv]
          rw [if_neg hiv] at hu ⊢
          clear hiv
          go_enter Tryz.func120, Tryz.ntmps120
          go_wp2_with fail
          refine (HC1.out _ (gr_refl _ _)).mono ?_
          rintro e w1 ⟨rfl, hg1⟩
          have HG1 := Lib.hid hg1
          have c1 := hg1.cell C1.out (by simp)
          have c3 := hg1.cell C3.out (by simp)
          clear hg1
          go_wp2_with fail
          refine (HC2.out _ HG1.out (by omega)).mono ?_
          rintro e w2 ⟨rfl, hg2⟩
          have HG2 := Lib.hid (HG1.out.trans hg2)
          clear hg2
          go_wp2_with fail
          go_ret
          exact ⟨by go_num, HG2.out⟩
      | false =>
        have hm := method_parts h
        have hrun := run_parts t pv
        have hta1 := ta_novar h hvr
        have hta2 := ta_noloop h hl
        have HK := Lib.hid (parts_any t S ty pv w h)
        have HKS := Lib.hid (csum_kids t)
        have HUS := Lib.hid (usum_kids v hvr hl)
        have HN := Lib.hid hn
        have HU := Lib.hid hu
        clear h hn hl hvr hu
        go_enter Tryz.func120, Tryz.ntmps120
        go_wp2_with fail
        refine HK.out.mono ?_
        rintro e w1 ⟨hg1, sv, xs, rfl, ho, ha⟩
        obtain ⟨A, k, c, rfl⟩ := own_form ho
        obtain ⟨hk, hkc, hrow⟩ := orow ho
        have hlen := All2.length _ _ ha
        have HKL := Lib.hid hk
        have HLEN := Lib.hid hlen
        have HROW := Lib.hid hrow
        have HA := Lib.hid ha
        have HG1 := Lib.hid hg1
        have hk2 : k ≤ 2 := by have := kids_len t; omega
        clear hg1 ho ha hk hlen hrow hm hrun hta1 hta2
        go_wp2_with fail
        go_loopw [8, 47] (fun u i wr => ∃ j m : Nat, j ≤ k ∧ i = .int .i64 j ∧ u = .int .i64 m ∧ m ≤ 1000000 ∧ Hid (m = usum v (t.kids.take j)) ∧ Hid (w1.grownBy wr none)) (fun _ i _ => k - (intOf i).toNat)
        case atStart => exact ⟨0, 0, Nat.zero_le _, rfl, rfl, by omega, Lib.hid (by simp [usum]), Lib.hid (gr_refl _ _)⟩
        case round =>
          obtain ⟨j, m, hj, rfl, rfl, hmn, hm, hgr⟩ := hrel
          by_cases hlt : j < k
          · obtain ⟨g, rfl, hg0, hg1, hcell⟩ := HROW.out (by omega)
            obtain ⟨tj, xj, htj, hxj, hpj⟩ := HA.out.get (j := j) (by have := HKL.out; omega)
            have hc := hcell j xj hxj
            obtain ⟨tyj, pvj, rfl⟩ := hpj.iface
            have hcw := hgr.out.cell hc (by simp)
            have hst := usum_step v htj
            have hbd : tj.size ≤ n := by
              have hst := csum_step htj
              have hlq := csum_take t.kids (j + 1)
              have hks2 := HKS.out
              have hn3 := HN.out
              omega
            have hus : m + tj.uses v ≤ 1000000 := by
              have h1 := usum_take v t.kids (j + 1)
              have h2 := HUS.out
              have h3 := HU.out
              have h4 := hm.out
              omega
            have HP := Lib.hid ((hpj.grown HG1.out).grown hgr.out)
            have HST := Lib.hid hst
            have HCALL := Lib.hid (HI.out tj _ _ wr hbd (by omega) HP.out)
            obtain ⟨z, hz⟩ : ∃ z, tj.uses v = z := ⟨_, rfl⟩
            rw [hz] at HCALL hus
            have HZ := Lib.hid hz
            clear hpj htj hxj hc hst hcell hbd hz
            go_wp2_with fail
            refine HCALL.out.mono ?_
            rintro e w2 ⟨rfl, hg2⟩
            have HG2 := Lib.hid (hgr.out.trans hg2)
            clear hg2 hcw
            go_wp2_with fail
            go_roundw
            case rel => exact ⟨j + 1, m + z, by omega, by go_num, by go_num, by omega, Lib.hid (by rw [hm.out, HST.out, HZ.out]), HG2⟩
            case measure => simp [intOf]; omega
          · have hjk : j = k := by omega
            have HJ := Lib.hid hjk
            clear hjk
            go_wp2_with fail
            go_ret
            refine ⟨?_, HG1.out.trans hgr.out⟩
            have e1 : m = t.uses v := by
              rw [HUS.out, hm.out, HJ.out, List.take_of_length_le (by rw [HLEN.out, HKL.out]; exact Nat.le_refl _)]
            rw [← e1]
            rfl

end Go.Proofs.YtboddoaekcchpaaGreat
