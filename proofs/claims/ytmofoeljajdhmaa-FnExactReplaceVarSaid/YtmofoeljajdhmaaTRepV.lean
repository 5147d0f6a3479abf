/- What ReplaceVar answers; ReplaceVar of the program. -/
import Derived.Test.YtmofoeljajdhmaaTBindA
import Derived.Test.YtmofoeljajdhmaaTInL
import Derived.Test.YtmofoeljajdhmaaTText
import Derived.Test.YtmofoeljajdhmaaTTerm
namespace Go.Proofs.Ytmofoeljajdhmaa
open Go.RowKit

/-- The one variable that a text is. -/
def vch (v : ByteArray) : Option Int := if v.size = 1 ∧ isV (ba v 0) = true then some (ba v 0) else none
theorem one_list {v : ByteArray} (h : v.size = 1) : v.data.toList = [byt (ba v 0)] := by
  have hl : v.data.toList.length = 1 := by rw [Array.length_toList]; exact h
  obtain ⟨x, hx⟩ := List.length_eq_one_iff.1 hl
  have hb : ba v 0 = (x.toNat : Int) := (At.cons (s := v) (p := 0) (c := x) (l := []) ⟨[], [], by simp [hx], rfl⟩).1
  rw [hx, hb]
  simp [byt]
theorem vch_some {v : ByteArray} {c : Int} (h : vch v = some c) : readT v = some (.var c) ∧ isV c = true ∧ v.size = 1 ∧ ba v 0 = c := by
  unfold vch at h
  split at h
  · rename_i hv
    cases h
    exact ⟨readT_back hv.2 (one_list hv.1) (by omega), hv.2, hv.1, rfl⟩
  · cases h
theorem vch_none {v : ByteArray} {c : Int} (h : vch v = none) : readT v ≠ some (.var c) := by
  intro hr
  have hl := readT_len hr
  have ho := (readT_some hr).2.2.1
  have ht := readT_txt hr
  simp only [Tm.txt, List.length_cons, List.length_nil] at hl
  have hv1 : v.size = 1 := by omega
  have hb := one_list hv1
  rw [ht] at hb
  simp only [Tm.txt, List.cons.injEq, and_true] at hb
  have h0 := vb ho
  have hba : ba v 0 = c := by
    have h1 : 0 ≤ ba v 0 := by rw [ba_in (by omega)]; omega
    have := byt_back h1 (ba_hi v 0)
    rw [← hb, byt_back h0.1 h0.2] at this
    exact this.symm
  unfold vch at h
  rw [if_pos ⟨hv1, by rw [hba]; exact ho⟩] at h
  cases h

/-- What ReplaceVar answers. -/
def replA (t v u : ByteArray) : Option ByteArray := match readT t, readT u, vch v with
  | some T, some U, some c => if T.binds c U = true ∨ 80 < (T.rep c U).txt.length then none else some (bytesOf (T.rep c U).txt)
  | _, _, _ => none
def RVP (o : Option ByteArray) (w : World) (e : Ending) (w' : World) : Prop := e = .returned (.tuple #[.string (o.getD ⟨#[]⟩), .bool o.isSome]) ∧ w.grownBy w' none

set_option maxRecDepth 100000 in
set_option maxHeartbeats 4000000 in
theorem repv_impl (t v u : ByteArray) (w : World) :
    Calls Try.prog 18 #[.string t, .string v, .string u] w (RVP (replA t v u) w) := by
  have H1 := Lib.hid (fun w => term_any t w)
  have H2 := Lib.hid (fun w => term_any u w)
  obtain ⟨res, hres⟩ : ∃ b, replA t v u = b := ⟨_, rfl⟩
  rw [hres]
  have HRES := Lib.hid hres
  clear hres
  go_enter Try.func18, Try.ntmps18
  go_wp2_with fail
  refine (H1.out _).mono ?_
  intro e w1 hp1
  unfold TermPost at hp1
  cases hr1 : readT t with
  | none =>
    rw [hr1] at hp1
    obtain ⟨rfl, hg1⟩ := hp1
    have HG1 := Lib.hid hg1
    have HR : Hid (res = none) := Lib.hid (by rw [← HRES.out]; unfold replA; rw [hr1])
    clear hg1 hr1
    go_wp2_with fail
    refine (H2.out _).mono ?_
    intro e w2 hp2
    have hsh : ∃ x b, e = .returned (.tuple #[x, .bool b]) ∧ w1.grownBy w2 none := by
      unfold TermPost at hp2
      cases hr2 : readT u with
      | none => rw [hr2] at hp2; exact ⟨_, _, hp2.1, hp2.2⟩
      | some U => rw [hr2] at hp2; obtain ⟨x, he, hg, _⟩ := hp2; exact ⟨_, _, he, hg⟩
    obtain ⟨x, b, rfl, hg2⟩ := hsh
    have HG2 := Lib.hid hg2
    clear hp2 hg2
    go_wp2_with fail
    go_ret2
    rw [HR.out]
    exact ⟨rfl, HG1.out.trans HG2.out⟩
  | some T =>
    rw [hr1] at hp1
    obtain ⟨x1, rfl, hg1, hpt⟩ := hp1
    obtain ⟨ty1, pv1, rfl⟩ := hpt.iface
    have HG1 := Lib.hid hg1
    have HPT := Lib.hid hpt
    have HR1 := Lib.hid hr1
    clear hg1 hr1 hpt
    go_wp2_with fail
    refine (H2.out _).mono ?_
    intro e w2 hp2
    unfold TermPost at hp2
    cases hr2 : readT u with
    | none =>
      rw [hr2] at hp2
      obtain ⟨rfl, hg2⟩ := hp2
      have HG2 := Lib.hid hg2
      have HR : Hid (res = none) := Lib.hid (by rw [← HRES.out]; unfold replA; rw [HR1.out, hr2])
      clear hg2 hr2
      go_wp2_with fail
      go_ret2
      rw [HR.out]
      exact ⟨rfl, HG1.out.trans HG2.out⟩
    | some U =>
      rw [hr2] at hp2
      obtain ⟨x2, rfl, hg2, hpu⟩ := hp2
      obtain ⟨ty2, pv2, rfl⟩ := hpu.iface
      have HG2 := Lib.hid hg2
      have HPU := Lib.hid hpu
      have HR2 := Lib.hid hr2
      clear hg2 hr2 hpu
      by_cases hs1 : v.size = 1
      · have h0 : 0 < v.size := by omega
        obtain ⟨iv, hiv⟩ : ∃ b, isV (ba v 0) = b := ⟨_, rfl⟩
        have hb0 : 0 ≤ ba v 0 := by rw [ba_in h0]; omega
        have hb1 := ba_hi v 0
        have HO := Lib.hid (fun w => oneofV (ba v 0) hb0 hb1 iv hiv w)
        have HIV := Lib.hid hiv
        have HVC : Hid (vch v = if iv = true then some (ba v 0) else none) := Lib.hid (by
          unfold vch
          rw [hiv]
          cases iv <;> simp [hs1])
        obtain ⟨c, hcb⟩ : ∃ c, ba v 0 = c := ⟨_, rfl⟩
        have hc : ((v[0]'h0).toNat : Int) = c := by rw [← hcb]; exact (ba_in h0).symm
        rw [hcb] at HO hb0 hb1 HVC
        have hs1i : ((v.size : Int) != 1) = false := by rw [hs1]; rfl
        have HS1 := Lib.hid hs1
        clear hiv hs1 hcb
        go_wp2_with fail
        refine (HO.out _).mono ?_
        rintro e w2' ⟨rfl, rfl⟩
        cases iv
        · have HR : Hid (res = none) := Lib.hid (by rw [← HRES.out]; unfold replA; rw [HR1.out, HR2.out, HVC.out]; rfl)
          go_wp2_with fail
          go_ret2
          rw [HR.out]
          exact ⟨rfl, HG1.out.trans HG2.out⟩
        · have HU := Lib.hid (readT_some HR2.out)
          have HT := Lib.hid (readT_some HR1.out)
          have HUL := Lib.hid (readT_len HR2.out)
          have HTL := Lib.hid (readT_len HR1.out)
          have HR : Hid (res = if T.binds c U = true ∨ 80 < (T.rep c U).txt.length then none else some (bytesOf (T.rep c U).txt)) := Lib.hid (by rw [← HRES.out]; unfold replA; rw [HR1.out, HR2.out, HVC.out]; rfl)
          go_wp2_with fail
          refine (repof_any c U _ _ _ HU.out.2.2.1 (by have := HU.out.2.2.2; omega) HPU.out).mono ?_
          rintro e w3 ⟨r, fb, rfl, hg3, hra⟩
          have HG3 := Lib.hid hg3
          have HRA := Lib.hid hra
          have HPT3 := Lib.hid ((HPT.out.grown HG2.out).grown hg3)
          have HWB := Lib.hid (wb_any r fb U.size c U _ ⟨hb0, hb1⟩ 80 T _ _ w3 HT.out.2.2.2 (by omega) HT.out.2.2.1 HPT3.out hra)
          obtain ⟨bd, hbd⟩ : ∃ b, T.binds c U = b := ⟨_, rfl⟩
          rw [hbd] at HWB HR
          clear hg3 hra hbd
          go_wp2_with fail
          refine HWB.out.mono ?_
          rintro e w4 ⟨rfl, hg4⟩
          have HG4 := Lib.hid hg4
          have HIN := Lib.hid (inn_any r c U _ fb 80 T _ _ w4 HT.out.2.2.2 (HPT3.out.grown hg4) (HRA.out.grown hg4).blk (HRA.out.grown hg4).by')
          clear hg4
          cases bd
          · go_wp2_with fail
            refine HIN.out.mono ?_
            rintro e w5 ⟨x5, rfl, hg5, hp5⟩
            obtain ⟨ty5, pv5, rfl⟩ := hp5.iface
            have HG5 := Lib.hid hg5
            have hle : (T.rep c U).txt.length ≤ 80 * 80 := by
              have h1 := T.rep_len c U (by have := HUL.out; have := HU.out.1; omega)
              have h2 := HTL.out
              have h3 := HT.out.1
              omega
            have HTX := Lib.hid (textof_any (T.rep c U) _ ty5 pv5 w5 (T.rep_ok c U HU.out.2.2.1 HT.out.2.2.1) hp5 (by omega))
            obtain ⟨X, hX⟩ : ∃ X, bytesOf (T.rep c U).txt = X := ⟨_, rfl⟩
            have hXs : X.size = (T.rep c U).txt.length := by rw [← hX]; simp [bytesOf, ByteArray.size]
            rw [hX] at HTX HR
            rw [← hXs] at HR
            clear hg5 hp5 hX hXs hle
            go_wp2_with fail
            refine HTX.out.mono ?_
            rintro e w6 ⟨rfl, hg6⟩
            have HG6 := Lib.hid ((((HG1.out.trans HG2.out).trans HG3.out).trans HG4.out).trans (HG5.out.trans hg6))
            clear hg6
            by_cases h80 : 80 < X.size
            · have hgt : (80 : Int) < (X.size : Int) := by omega
              have HRN : Hid (res = none) := Lib.hid (by rw [HR.out, if_pos (.inr h80)])
              clear h80
              go_wp2_with fail
              go_ret2
              rw [HRN.out]
              exact ⟨rfl, HG6.out⟩
            · have hgt : ¬ (80 : Int) < (X.size : Int) := by omega
              have HRN : Hid (res = some X) := Lib.hid (by rw [HR.out, if_neg (by simp [h80])])
              clear h80
              go_wp2_with fail
              go_ret2
              rw [HRN.out]
              exact ⟨rfl, HG6.out⟩
          · have HRN : Hid (res = none) := Lib.hid (by rw [HR.out, if_pos (.inl rfl)])
            go_wp2_with fail
            go_ret2
            rw [HRN.out]
            exact ⟨rfl, ((HG1.out.trans HG2.out).trans HG3.out).trans HG4.out⟩
      · have hs1i : ((v.size : Int) != 1) = true := by simp; omega
        have HR : Hid (res = none) := Lib.hid (by rw [← HRES.out]; unfold replA; rw [HR1.out, HR2.out, show vch v = none from by unfold vch; rw [if_neg (fun h => hs1 h.1)]])
        go_wp2_with fail
        go_ret2
        rw [HR.out]
        exact ⟨rfl, HG1.out.trans HG2.out⟩

end Go.Proofs.Ytmofoeljajdhmaa
