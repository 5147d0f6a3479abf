/- The law FnParts: whatever the bytes, true. -/
import Derived.Test.YtmofoeljajdhmaaPtsM
import Derived.Test.YtmofoeljajdhmaaSPts
import Derived.Test.YtmofoeljajdhmaaDrZ
import Derived.Test.YtmofoeljajdhmaaLawKit
import Derived.Test.YtmofoeljajdhmaaGdparts
namespace Go.Proofs.Ytmofoeljajdhmaa
open Go.ChangeShapes Go.WideShapes Go.ChangeAt Go.RowKit
open Go.ChangeMaps (open_string shut_string)

theorem strs_own {w : World} {B : Nat} {sv : Value} {ss : List ByteArray} (h : w.ownsRow B 9 1 sv ss.length (strV ss)) : ∃ A c, sv = .slice A ss.length c ∧ Strs w A ss := by
  obtain ⟨A, m, c, rfl⟩ := own_form h
  obtain rfl := own_len h
  refine ⟨A, c, rfl, fun hl => ?_⟩
  obtain ⟨_, _, hrow⟩ := orow h
  obtain ⟨g, rfl, _, hg, hc⟩ := hrow hl
  refine ⟨g, 0, rfl, hg, fun j s hj => ?_⟩
  rw [Nat.zero_add]
  exact hc j _ (by simp [strV, hj])

theorem empty_list : (⟨#[]⟩ : ByteArray).toList.isEmpty = true := by first | kernel_rfl | (unfold ByteArray.toList ByteArray.toList.loop; simp [ByteArray.size])
theorem one_nonempty (c : Int) : (one c).toList.isEmpty = false := by rw [Lib.toList_data, one_data]; rfl
theorem sign_ne {sg : ByteArray} {c d : Int} {x : UInt8} (h : sg = one c) (h0 : 0 ≤ c) (h1 : c ≤ 255) (hc : c ≠ d) (hx : x = byt d) (hd : 0 ≤ d ∧ d ≤ 255) : (sg.toList == [x]) = false := by
  rw [h, Lib.toList_data, one_data, beq_eq_false_iff_ne, hx]
  intro e
  have h5 : byt c = byt d := by simpa using e
  have h2 := byt_back h0 h1
  rw [h5, byt_back hd.1 hd.2] at h2
  exact hc h2.symm
theorem sgn_plain {T : Tm} (ho : T.Ok) (hl : T.isLoop = false) : 0 ≤ T.sgn ∧ T.sgn ≤ 255 ∧ T.sgn ≠ 91 ∧ T.sgn ≠ 123 := by
  cases T with
  | dig c => have := isD_ge ho; simp only [Tm.sgn]; omega
  | var c => have := isV_ge ho; simp only [Tm.sgn]; omega
  | pre c s => have := isP_ge ho.1; simp only [Tm.sgn]; omega
  | two c s u =>
    have := ho.1
    unfold isB at this
    simp only [decide_eq_true_eq] at this
    simp only [Tm.sgn]; omega
  | loop c i s u => cases hl
theorem sign_eq {sg : ByteArray} {c : Int} (h : sg = one c) : (sg.toList == [byt c]) = true := by rw [h, Lib.toList_data, one_data]; simp

set_option maxRecDepth 100000 in
set_option maxHeartbeats 16000000 in
theorem law_dparts (A : Option Addr) (n c : Nat) (w : World) (hB : Byts w A n) (hc : n ≤ c) (hn : n ≤ 9223372036854775807) :
    Calls Try.prog 5 #[.slice A n c] w fun e w' => e = .returned (.bool true) ∧ w.grownBy w' none := by
  by_cases h1 : 1048576 < n
  · clear hB
    go_enter Try.func5, Try.ntmps5
    go_wp2_with fail
    go_ret
    exact ⟨rfl, gr_refl _ _⟩
  have HD := Lib.hid (drawparts_any A n c w hB hc hn)
  clear hB hc
  go_enter Try.func5, Try.ntmps5
  go_wp2_with fail
  refine HD.out.mono ?_
  rintro e w1 ⟨t, rfl, ht, hg1⟩
  have HG1 := Lib.hid hg1
  have ht2 : t.size ≤ 1048576 := by omega
  have P1 := Lib.hid (tpts_impl t w1)
  obtain ⟨P, hP⟩ : ∃ P, partsA t = P := ⟨_, rfl⟩
  obtain ⟨np, hnp⟩ : ∃ k, P.length = k := ⟨_, rfl⟩
  have hnp2 : np ≤ 2 := by rw [← hnp, ← hP]; exact partsA_len t
  obtain ⟨sg, hsg⟩ : ∃ s, tsignA t = s := ⟨_, rfl⟩
  obtain ⟨vd, hvd⟩ : ∃ s, tvalidA t = s := ⟨_, rfl⟩
  obtain ⟨sz, hsz⟩ : ∃ s, tsizeA t = s := ⟨_, rfl⟩
  obtain ⟨lv, hlv⟩ : ∃ s, tlevA t = s := ⟨_, rfl⟩
  have P2 := Lib.hid (fun w => tpts_spec t ht2 w)
  have G1 := Lib.hid (fun w => tsign_impl t ht2 w)
  have G2 := Lib.hid (fun w => tsign_spec t ht2 w)
  have V1 := Lib.hid (fun w => tvalid_impl t ht2 w)
  have V2 := Lib.hid (fun w => tvalid_spec t ht2 w)
  have S1 := Lib.hid (fun w => tsize_impl t ht2 w)
  have S2 := Lib.hid (fun w => tsize_spec t ht2 w)
  have L1 := Lib.hid (fun w => tlev_impl t ht2 w)
  have L2 := Lib.hid (fun w => tlev_spec t ht2 w)
  rw [hP] at P1 P2
  rw [hsg] at G1 G2
  rw [hvd] at V1 V2
  rw [hsz] at S1 S2
  rw [hlv] at L1 L2
  have HP := Lib.hid hP
  have HNP := Lib.hid hnp
  have HSG := Lib.hid hsg
  have HVD := Lib.hid hvd
  have HSZ := Lib.hid hsz
  have HLV := Lib.hid hlv
  clear hg1 HD hP hnp hsg hvd hsz hlv
  go_wp2_with fail
  refine P1.out.mono ?_
  rintro e w2 ⟨sv, rfl, hg2, ho2⟩
  obtain ⟨A2, c2, rfl, hs2⟩ := strs_own ho2
  rw [HNP.out]
  have HG2 := Lib.hid (HG1.out.trans hg2)
  have HS2 := Lib.hid hs2
  clear hg2 ho2 hs2
  go_wp2_with fail
  refine (G1.out _).mono ?_
  rintro e w3 ⟨rfl, hg3⟩
  have HG3 := Lib.hid (HG2.out.trans hg3)
  have HS3 := Lib.hid (HS2.out.grown hg3)
  clear hg3
  go_wp2_with fail
  refine (P2.out _).mono ?_
  rintro e w4 ⟨sv, rfl, hg4, ho4⟩
  obtain ⟨A4, c4, rfl, hs4⟩ := strs_own ho4
  have HF := Lib.hid (fatexts_any A2 A4 c2 c4 P w4 (HS3.out.grown hg4) hs4 (by have := HNP.out; omega))
  rw [HNP.out] at HF ⊢
  have HG4 := Lib.hid (HG3.out.trans hg4)
  have HS4 := Lib.hid (HS3.out.grown hg4)
  clear hg4 ho4 hs4
  go_wp2_with fail
  refine HF.out.mono ?_
  rintro e w5 ⟨rfl, q5, rfl⟩
  have HG5 := Lib.hid (HG4.out.trans (gr_drewN w4 q5 none))
  have HS5 := Lib.hid (HS4.out.grown (gr_drewN w4 q5 none))
  generalize w4.drewN q5 = w5 at HG5 HS5 ⊢
  go_wp2_with fail
  refine (G2.out _).mono ?_
  rintro e w6 ⟨rfl, hg6⟩
  have HG6 := Lib.hid (HG5.out.trans hg6)
  have HS6 := Lib.hid (HS5.out.grown hg6)
  clear hg6
  go_wp2_with fail
  refine (V1.out _).mono ?_
  rintro e w7 ⟨rfl, hg7⟩
  have HG7 := Lib.hid (HG6.out.trans hg7)
  have HS7 := Lib.hid (HS6.out.grown hg7)
  clear hg7
  go_wp2_with fail
  refine (V2.out _).mono ?_
  rintro e w8 ⟨rfl, hg8⟩
  have HG8 := Lib.hid (HG7.out.trans hg8)
  have HS8 := Lib.hid (HS7.out.grown hg8)
  clear hg8
  go_wp2_with fail
  refine (S1.out _).mono ?_
  rintro e w9 ⟨rfl, hg9⟩
  have HG9 := Lib.hid (HG8.out.trans hg9)
  have HS9 := Lib.hid (HS8.out.grown hg9)
  clear hg9
  go_wp2_with fail
  refine (S2.out _).mono ?_
  rintro e w10 ⟨rfl, hg10⟩
  have HG10 := Lib.hid (HG9.out.trans hg10)
  have HS10 := Lib.hid (HS9.out.grown hg10)
  clear hg10
  go_wp2_with fail
  refine (L1.out _).mono ?_
  rintro e w11 ⟨rfl, hg11⟩
  have HG11 := Lib.hid (HG10.out.trans hg11)
  have HS11 := Lib.hid (HS10.out.grown hg11)
  clear hg11
  go_wp2_with fail
  refine (L2.out _).mono ?_
  rintro e w12 ⟨rfl, hg12⟩
  have HG12 := Lib.hid (HG11.out.trans hg12)
  have HS12 := Lib.hid (HS11.out.grown hg12)
  clear hg12
  cases hr : readT t with
  | none =>
    have hse : sg.toList.isEmpty = true := by rw [← HSG.out]; unfold tsignA; rw [hr]; exact empty_list
    obtain rfl : np = 0 := by rw [← HNP.out, ← HP.out]; unfold partsA; rw [hr]; rfl
    obtain rfl : vd = false := by rw [← HVD.out]; unfold tvalidA; rw [hr]; rfl
    obtain rfl : sz = -1 := by rw [← HSZ.out]; unfold tsizeA; rw [hr]
    clear hr
    go_wp2_with fail
    refine (V1.out _).mono ?_
    rintro e wa ⟨rfl, hga⟩
    have HGa := Lib.hid (HG12.out.trans hga)
    clear hga
    go_wp2_with fail
    refine (S1.out _).mono ?_
    rintro e wb ⟨rfl, hgb⟩
    have HGb := Lib.hid (HGa.out.trans hgb)
    clear hgb
    go_wp2_with fail
    go_ret
    exact ⟨rfl, HGb.out⟩
  | some T =>
    have HR := Lib.hid hr
    have hok := (readT_some hr).2.2.1
    have hse : sg.toList.isEmpty = false := by rw [← HSG.out]; unfold tsignA; rw [hr]; exact one_nonempty _
    have HSGN : Hid (sg = one T.sgn) := Lib.hid (by rw [← HSG.out]; unfold tsignA; rw [hr])
    have HZB : Hid (∀ z ∈ P, z.size ≤ 1048576) := Lib.hid (by
      intro z hz
      rw [← HP.out, parts_some hr] at hz
      obtain ⟨kk, hkk, rfl⟩ := List.mem_map.1 hz
      have h1 := (Tm.kids_ok hok hkk).2
      have h2 := readT_len hr
      rw [bytesOf_size]
      omega)
    have HSE : Hid (sAt P np = sz) := Lib.hid (by rw [← HNP.out, ← HP.out, ← HSZ.out, sAt_end hr, tsizeA_some hr])
    have HVE : Hid (vAt P T.isLoop np = lv) := Lib.hid (by rw [← HNP.out, ← HP.out, ← HLV.out, vAt_end hr, tlevA_some hr])
    cases T
    case dig c5 =>
      obtain hnp : np = 0 := by rw [← HNP.out, ← HP.out, parts_some hr]; rfl
      have HLB := HVE.out
      simp only [Tm.isLoop] at HLB
      have HVE := Lib.hid HLB
      clear HLB
      obtain ⟨hn0, hn1, hn91, hn123⟩ := sgn_plain hok rfl
      have e91 : (sg.toList == [91]) = false := sign_ne HSGN.out hn0 hn1 hn91 rfl (by omega)
      have e123 : (sg.toList == [123]) = false := sign_ne HSGN.out hn0 hn1 hn123 rfl (by omega)
      clear hn0 hn1 hn91 hn123
      go_wp2_with fail
      go_loopw [6, 7, 77] (fun a b i wr => ∃ j : Nat, j ≤ np ∧ i = .int .i64 j ∧ a = .int .i64 (sAt P j) ∧ b = .int .i64 (vAt P false j) ∧ Hid (w.grownBy wr none) ∧ Hid (Strs wr A2 P)) (fun _ _ i _ => np - (intOf i).toNat)
      case atStart => exact ⟨0, Nat.zero_le _, rfl, rfl, rfl, HG12, HS12⟩
      case round =>
        obtain ⟨j, hj, rfl, rfl, rfl, HGr, HSr⟩ := hrel
        by_cases hlt : j < np
        · exact absurd hlt (by omega)
        · have hjn : j = np := by omega
          subst hjn
          rw [HSE.out, HVE.out]
          have hvz : (lv == lv) = true := by simp
          have hsz : (sz == sz) = true := by simp
          clear hj hlt
          have hsg1 : sg.size = 1 := by rw [HSGN.out, one_size]
          have htx : sg = t := by rw [HSGN.out, ptext HR.out, Tm.txt, bytesOf_one]; rfl
          go_wp2_with fail
          refine (S1.out _).mono ?_
          rintro e wc ⟨rfl, hgc⟩
          have HGc := Lib.hid (HGr.out.trans hgc)
          clear hgc
          go_wp2_with fail
          refine (L1.out _).mono ?_
          rintro e wd ⟨rfl, hgd⟩
          have HGd := Lib.hid (HGc.out.trans hgd)
          clear hgd
          go_wp2_with fail
          go_ret
          exact ⟨rfl, HGd.out⟩
    case var c5 =>
      obtain hnp : np = 0 := by rw [← HNP.out, ← HP.out, parts_some hr]; rfl
      have HLB := HVE.out
      simp only [Tm.isLoop] at HLB
      have HVE := Lib.hid HLB
      clear HLB
      obtain ⟨hn0, hn1, hn91, hn123⟩ := sgn_plain hok rfl
      have e91 : (sg.toList == [91]) = false := sign_ne HSGN.out hn0 hn1 hn91 rfl (by omega)
      have e123 : (sg.toList == [123]) = false := sign_ne HSGN.out hn0 hn1 hn123 rfl (by omega)
      clear hn0 hn1 hn91 hn123
      go_wp2_with fail
      go_loopw [6, 7, 77] (fun a b i wr => ∃ j : Nat, j ≤ np ∧ i = .int .i64 j ∧ a = .int .i64 (sAt P j) ∧ b = .int .i64 (vAt P false j) ∧ Hid (w.grownBy wr none) ∧ Hid (Strs wr A2 P)) (fun _ _ i _ => np - (intOf i).toNat)
      case atStart => exact ⟨0, Nat.zero_le _, rfl, rfl, rfl, HG12, HS12⟩
      case round =>
        obtain ⟨j, hj, rfl, rfl, rfl, HGr, HSr⟩ := hrel
        by_cases hlt : j < np
        · exact absurd hlt (by omega)
        · have hjn : j = np := by omega
          subst hjn
          rw [HSE.out, HVE.out]
          have hvz : (lv == lv) = true := by simp
          have hsz : (sz == sz) = true := by simp
          clear hj hlt
          have hsg1 : sg.size = 1 := by rw [HSGN.out, one_size]
          have htx : sg = t := by rw [HSGN.out, ptext HR.out, Tm.txt, bytesOf_one]; rfl
          go_wp2_with fail
          refine (S1.out _).mono ?_
          rintro e wc ⟨rfl, hgc⟩
          have HGc := Lib.hid (HGr.out.trans hgc)
          clear hgc
          go_wp2_with fail
          refine (L1.out _).mono ?_
          rintro e wd ⟨rfl, hgd⟩
          have HGd := Lib.hid (HGc.out.trans hgd)
          clear hgd
          go_wp2_with fail
          go_ret
          exact ⟨rfl, HGd.out⟩
    case pre c5 s5 =>
      obtain hnp : np = 1 := by rw [← HNP.out, ← HP.out, parts_some hr]; rfl
      have HLB := HVE.out
      simp only [Tm.isLoop] at HLB
      have HVE := Lib.hid HLB
      clear HLB
      obtain ⟨hn0, hn1, hn91, hn123⟩ := sgn_plain hok rfl
      have e91 : (sg.toList == [91]) = false := sign_ne HSGN.out hn0 hn1 hn91 rfl (by omega)
      have e123 : (sg.toList == [123]) = false := sign_ne HSGN.out hn0 hn1 hn123 rfl (by omega)
      clear hn0 hn1 hn91 hn123
      go_wp2_with fail
      go_loopw [6, 7, 77] (fun a b i wr => ∃ j : Nat, j ≤ np ∧ i = .int .i64 j ∧ a = .int .i64 (sAt P j) ∧ b = .int .i64 (vAt P false j) ∧ Hid (w.grownBy wr none) ∧ Hid (Strs wr A2 P)) (fun _ _ i _ => np - (intOf i).toNat)
      case atStart => exact ⟨0, Nat.zero_le _, rfl, rfl, rfl, HG12, HS12⟩
      case round =>
        obtain ⟨j, hj, rfl, rfl, rfl, HGr, HSr⟩ := hrel
        by_cases hlt : j < np
        · obtain ⟨z, hz⟩ : ∃ z, P[j]? = some z := ⟨_, List.getElem?_eq_getElem (by have := HNP.out; omega)⟩
          obtain ⟨b5, off5, rfl, hcell⟩ := HSr.out.at_ hz
          have hzb := HZB.out z (List.mem_of_getElem? hz)
          have hzd : P.getD j ⟨#[]⟩ = z := by rw [List.getD_eq_getElem?_getD, hz]; rfl
          have HS1 := Lib.hid (show sAt P (j + 1) = sAt P j + tsizeA z by simp only [sAt, hzd])
          have HV1 := Lib.hid (show vAt P false (j + 1) = max (vAt P false j) (tlevA z + if false = true ∧ j = 1 then 1 else 0) by simp only [vAt, hzd])
          have hb1 := sAt_bd P j
          have hb2 := vAt_bd P false j
          have hb3 := tsizeA_bd z
          have hb4 := tlevA_bd z
          have Z1 := Lib.hid (fun w => tsize_impl z hzb w)
          have Z2 := Lib.hid (fun w => tlev_impl z hzb w)
          obtain ⟨a1, ha1⟩ : ∃ x, sAt P j = x := ⟨_, rfl⟩
          obtain ⟨a2, ha2⟩ : ∃ x, vAt P false j = x := ⟨_, rfl⟩
          obtain ⟨a3, ha3⟩ : ∃ x, tsizeA z = x := ⟨_, rfl⟩
          obtain ⟨a4, ha4⟩ : ∃ x, tlevA z = x := ⟨_, rfl⟩
          rw [ha1, ha3] at HS1
          rw [ha2, ha4] at HV1
          rw [ha1] at hb1
          rw [ha2] at hb2
          rw [ha3] at hb3 Z1
          rw [ha4] at hb4 Z2
          rw [ha1, ha2]
          have q1 : IntKind.i64.wrap (a1 + a3) = a1 + a3 := IntWalk.i64_in _ (by omega)
          have q2 : IntKind.i64.wrap (a4 + 1) = a4 + 1 := IntWalk.i64_in _ (by omega)
          clear hz hzd ha1 ha2 ha3 ha4
          go_wp2_with fail
          refine (Z1.out _).mono ?_
          rintro e wa ⟨rfl, hga⟩
          have HGa := Lib.hid (HGr.out.trans hga)
          have HSa := Lib.hid (HSr.out.grown hga)
          clear hga hcell
          go_wp2_with fail
          refine (Z2.out _).mono ?_
          rintro e wb ⟨rfl, hgb⟩
          have HGb := Lib.hid (HGa.out.trans hgb)
          have HSb := Lib.hid (HSa.out.grown hgb)
          clear hgb
          go_wp2_with fail
          go_roundw
          case rel => exact ⟨j + 1, by omega, by go_num, by rw [HS1.out], by rw [HV1.out]; simp, HGb, HSb⟩
          case measure => simp [intOf]; omega
        · have hjn : j = np := by omega
          subst hjn
          rw [HSE.out, HVE.out]
          have hvz : (lv == lv) = true := by simp
          have hsz : (sz == sz) = true := by simp
          clear hj hlt
          have hsg1 : sg.size = 1 := by rw [HSGN.out, one_size]
          obtain ⟨x0, hx0⟩ : ∃ x, bytesOf s5.txt = x := ⟨_, rfl⟩
          have hp0 : P[0]? = some x0 := by rw [← hx0, ← HP.out, parts_some HR.out]; rfl
          have hz0 : x0.size ≤ 80 := by
            have h1 := (Tm.kids_ok hok (show s5 ∈ Tm.kids _ by simp [Tm.kids])).2
            have h2 := readT_len HR.out
            have h3 := (readT_some HR.out).1
            rw [← hx0, bytesOf_size]
            omega
          have htx := text_pre HR.out
          rw [hx0, ← show sg = one c5 from HSGN.out] at htx
          obtain ⟨b5, off5, rfl, hc0⟩ := HSr.out.at_ hp0
          rw [Nat.add_zero] at hc0
          clear hx0 hp0
          go_wp2_with fail
          refine (S1.out _).mono ?_
          rintro e wc ⟨rfl, hgc⟩
          have HGc := Lib.hid (HGr.out.trans hgc)
          clear hgc
          go_wp2_with fail
          refine (L1.out _).mono ?_
          rintro e wd ⟨rfl, hgd⟩
          have HGd := Lib.hid (HGc.out.trans hgd)
          clear hgd
          go_wp2_with fail
          go_ret
          exact ⟨rfl, HGd.out⟩
    case two c5 s5 u5 =>
      obtain hnp : np = 2 := by rw [← HNP.out, ← HP.out, parts_some hr]; rfl
      have HLB := HVE.out
      simp only [Tm.isLoop] at HLB
      have HVE := Lib.hid HLB
      clear HLB
      obtain ⟨hn0, hn1, hn91, hn123⟩ := sgn_plain hok rfl
      have e91 : (sg.toList == [91]) = false := sign_ne HSGN.out hn0 hn1 hn91 rfl (by omega)
      have e123 : (sg.toList == [123]) = false := sign_ne HSGN.out hn0 hn1 hn123 rfl (by omega)
      clear hn0 hn1 hn91 hn123
      go_wp2_with fail
      go_loopw [6, 7, 77] (fun a b i wr => ∃ j : Nat, j ≤ np ∧ i = .int .i64 j ∧ a = .int .i64 (sAt P j) ∧ b = .int .i64 (vAt P false j) ∧ Hid (w.grownBy wr none) ∧ Hid (Strs wr A2 P)) (fun _ _ i _ => np - (intOf i).toNat)
      case atStart => exact ⟨0, Nat.zero_le _, rfl, rfl, rfl, HG12, HS12⟩
      case round =>
        obtain ⟨j, hj, rfl, rfl, rfl, HGr, HSr⟩ := hrel
        by_cases hlt : j < np
        · obtain ⟨z, hz⟩ : ∃ z, P[j]? = some z := ⟨_, List.getElem?_eq_getElem (by have := HNP.out; omega)⟩
          obtain ⟨b5, off5, rfl, hcell⟩ := HSr.out.at_ hz
          have hzb := HZB.out z (List.mem_of_getElem? hz)
          have hzd : P.getD j ⟨#[]⟩ = z := by rw [List.getD_eq_getElem?_getD, hz]; rfl
          have HS1 := Lib.hid (show sAt P (j + 1) = sAt P j + tsizeA z by simp only [sAt, hzd])
          have HV1 := Lib.hid (show vAt P false (j + 1) = max (vAt P false j) (tlevA z + if false = true ∧ j = 1 then 1 else 0) by simp only [vAt, hzd])
          have hb1 := sAt_bd P j
          have hb2 := vAt_bd P false j
          have hb3 := tsizeA_bd z
          have hb4 := tlevA_bd z
          have Z1 := Lib.hid (fun w => tsize_impl z hzb w)
          have Z2 := Lib.hid (fun w => tlev_impl z hzb w)
          obtain ⟨a1, ha1⟩ : ∃ x, sAt P j = x := ⟨_, rfl⟩
          obtain ⟨a2, ha2⟩ : ∃ x, vAt P false j = x := ⟨_, rfl⟩
          obtain ⟨a3, ha3⟩ : ∃ x, tsizeA z = x := ⟨_, rfl⟩
          obtain ⟨a4, ha4⟩ : ∃ x, tlevA z = x := ⟨_, rfl⟩
          rw [ha1, ha3] at HS1
          rw [ha2, ha4] at HV1
          rw [ha1] at hb1
          rw [ha2] at hb2
          rw [ha3] at hb3 Z1
          rw [ha4] at hb4 Z2
          rw [ha1, ha2]
          have q1 : IntKind.i64.wrap (a1 + a3) = a1 + a3 := IntWalk.i64_in _ (by omega)
          have q2 : IntKind.i64.wrap (a4 + 1) = a4 + 1 := IntWalk.i64_in _ (by omega)
          clear hz hzd ha1 ha2 ha3 ha4
          go_wp2_with fail
          refine (Z1.out _).mono ?_
          rintro e wa ⟨rfl, hga⟩
          have HGa := Lib.hid (HGr.out.trans hga)
          have HSa := Lib.hid (HSr.out.grown hga)
          clear hga hcell
          go_wp2_with fail
          refine (Z2.out _).mono ?_
          rintro e wb ⟨rfl, hgb⟩
          have HGb := Lib.hid (HGa.out.trans hgb)
          have HSb := Lib.hid (HSa.out.grown hgb)
          clear hgb
          go_wp2_with fail
          go_roundw
          case rel => exact ⟨j + 1, by omega, by go_num, by rw [HS1.out], by rw [HV1.out]; simp, HGb, HSb⟩
          case measure => simp [intOf]; omega
        · have hjn : j = np := by omega
          subst hjn
          rw [HSE.out, HVE.out]
          have hvz : (lv == lv) = true := by simp
          have hsz : (sz == sz) = true := by simp
          clear hj hlt
          have hsg1 : sg.size = 1 := by rw [HSGN.out, one_size]
          obtain ⟨x0, hx0⟩ : ∃ x, bytesOf s5.txt = x := ⟨_, rfl⟩
          have hp0 : P[0]? = some x0 := by rw [← hx0, ← HP.out, parts_some HR.out]; rfl
          have hz0 : x0.size ≤ 80 := by
            have h1 := (Tm.kids_ok hok (show s5 ∈ Tm.kids _ by simp [Tm.kids])).2
            have h2 := readT_len HR.out
            have h3 := (readT_some HR.out).1
            rw [← hx0, bytesOf_size]
            omega
          obtain ⟨x1, hx1⟩ : ∃ x, bytesOf u5.txt = x := ⟨_, rfl⟩
          have hp1 : P[1]? = some x1 := by rw [← hx1, ← HP.out, parts_some HR.out]; rfl
          have hz1 : x1.size ≤ 80 := by
            have h1 := (Tm.kids_ok hok (show u5 ∈ Tm.kids _ by simp [Tm.kids])).2
            have h2 := readT_len HR.out
            have h3 := (readT_some HR.out).1
            rw [← hx1, bytesOf_size]
            omega
          have htx := text_two HR.out
          rw [hx0, hx1, ← show sg = one c5 from HSGN.out] at htx
          obtain ⟨b5, off5, rfl, hc0⟩ := HSr.out.at_ hp0
          rw [Nat.add_zero] at hc0
          obtain ⟨b6, off6, e6, hc1⟩ := HSr.out.at_ hp1
          cases e6
          clear hx0 hp0 hx1 hp1
          go_wp2_with fail
          go_quiet (fail)
          go_wp2_with fail
          refine (S1.out _).mono ?_
          rintro e wc ⟨rfl, hgc⟩
          have HGc := Lib.hid (HGr.out.trans ((gr_drewN _ _ none).trans hgc))
          clear hgc
          go_wp2_with fail
          refine (L1.out _).mono ?_
          rintro e wd ⟨rfl, hgd⟩
          have HGd := Lib.hid (HGc.out.trans hgd)
          clear hgd
          go_wp2_with fail
          go_ret
          exact ⟨rfl, HGd.out⟩
    case loop c5 i5 s5 u5 =>
      obtain hnp : np = 2 := by rw [← HNP.out, ← HP.out, parts_some hr]; rfl
      have HLB := HVE.out
      simp only [Tm.isLoop] at HLB
      have HVE := Lib.hid HLB
      clear HLB
      rcases hok.1 with hc91 | hc91
      · have e91 : (sg.toList == [91]) = true := by have h9 := sign_eq (show sg = one 91 by rw [HSGN.out]; simp only [Tm.sgn]; rw [hc91]); exact h9
        go_wp2_with fail
        go_loopw [6, 7, 77] (fun a b i wr => ∃ j : Nat, j ≤ np ∧ i = .int .i64 j ∧ a = .int .i64 (sAt P j) ∧ b = .int .i64 (vAt P true j) ∧ Hid (w.grownBy wr none) ∧ Hid (Strs wr A2 P)) (fun _ _ i _ => np - (intOf i).toNat)
        case atStart => exact ⟨0, Nat.zero_le _, rfl, rfl, rfl, HG12, HS12⟩
        case round =>
          obtain ⟨j, hj, rfl, rfl, rfl, HGr, HSr⟩ := hrel
          by_cases hlt : j < np
          · obtain ⟨z, hz⟩ : ∃ z, P[j]? = some z := ⟨_, List.getElem?_eq_getElem (by have := HNP.out; omega)⟩
            obtain ⟨b5, off5, rfl, hcell⟩ := HSr.out.at_ hz
            have hzb := HZB.out z (List.mem_of_getElem? hz)
            have hzd : P.getD j ⟨#[]⟩ = z := by rw [List.getD_eq_getElem?_getD, hz]; rfl
            have HS1 := Lib.hid (show sAt P (j + 1) = sAt P j + tsizeA z by simp only [sAt, hzd])
            have HV1 := Lib.hid (show vAt P true (j + 1) = max (vAt P true j) (tlevA z + if true = true ∧ j = 1 then 1 else 0) by simp only [vAt, hzd])
            have hb1 := sAt_bd P j
            have hb2 := vAt_bd P true j
            have hb3 := tsizeA_bd z
            have hb4 := tlevA_bd z
            have Z1 := Lib.hid (fun w => tsize_impl z hzb w)
            have Z2 := Lib.hid (fun w => tlev_impl z hzb w)
            obtain ⟨a1, ha1⟩ : ∃ x, sAt P j = x := ⟨_, rfl⟩
            obtain ⟨a2, ha2⟩ : ∃ x, vAt P true j = x := ⟨_, rfl⟩
            obtain ⟨a3, ha3⟩ : ∃ x, tsizeA z = x := ⟨_, rfl⟩
            obtain ⟨a4, ha4⟩ : ∃ x, tlevA z = x := ⟨_, rfl⟩
            rw [ha1, ha3] at HS1
            rw [ha2, ha4] at HV1
            rw [ha1] at hb1
            rw [ha2] at hb2
            rw [ha3] at hb3 Z1
            rw [ha4] at hb4 Z2
            rw [ha1, ha2]
            have q1 : IntKind.i64.wrap (a1 + a3) = a1 + a3 := IntWalk.i64_in _ (by omega)
            have q2 : IntKind.i64.wrap (a4 + 1) = a4 + 1 := IntWalk.i64_in _ (by omega)
            clear hz hzd ha1 ha2 ha3 ha4
            go_wp2_with fail
            refine (Z1.out _).mono ?_
            rintro e wa ⟨rfl, hga⟩
            have HGa := Lib.hid (HGr.out.trans hga)
            have HSa := Lib.hid (HSr.out.grown hga)
            clear hga hcell
            go_wp2_with fail
            refine (Z2.out _).mono ?_
            rintro e wb ⟨rfl, hgb⟩
            have HGb := Lib.hid (HGa.out.trans hgb)
            have HSb := Lib.hid (HSa.out.grown hgb)
            clear hgb
            by_cases hj1 : j = 1
            · subst hj1
              go_wp2_with fail
              go_roundw
              case rel => exact ⟨1 + 1, by omega, by go_num, by rw [HS1.out], by rw [HV1.out]; simp, HGb, HSb⟩
              case measure => simp [intOf]; omega
            · have hj2 : ((j : Int) == 1) = false := by rw [beq_eq_false_iff_ne]; omega
              go_wp2_with fail
              go_roundw
              case rel => exact ⟨j + 1, by omega, by go_num, by rw [HS1.out], by rw [HV1.out]; simp [hj1], HGb, HSb⟩
              case measure => simp [intOf]; omega
          · have hjn : j = np := by omega
            subst hjn
            rw [HSE.out, HVE.out]
            have hvz : (lv == lv) = true := by simp
            have hsz : (sz == sz) = true := by simp
            clear hj hlt
            have hsg1 : sg.size = 1 := by rw [HSGN.out, one_size]
            obtain ⟨x0, hx0⟩ : ∃ x, bytesOf s5.txt = x := ⟨_, rfl⟩
            have hp0 : P[0]? = some x0 := by rw [← hx0, ← HP.out, parts_some HR.out]; rfl
            have hz0 : x0.size ≤ 80 := by
              have h1 := (Tm.kids_ok hok (show s5 ∈ Tm.kids _ by simp [Tm.kids])).2
              have h2 := readT_len HR.out
              have h3 := (readT_some HR.out).1
              rw [← hx0, bytesOf_size]
              omega
            obtain ⟨x1, hx1⟩ : ∃ x, bytesOf u5.txt = x := ⟨_, rfl⟩
            have hp1 : P[1]? = some x1 := by rw [← hx1, ← HP.out, parts_some HR.out]; rfl
            have hz1 : x1.size ≤ 80 := by
              have h1 := (Tm.kids_ok hok (show u5 ∈ Tm.kids _ by simp [Tm.kids])).2
              have h2 := readT_len HR.out
              have h3 := (readT_some HR.out).1
              rw [← hx1, bytesOf_size]
              omega
            have htx := text_loop HR.out
            rw [hx0, hx1, ← show sg = one c5 from HSGN.out] at htx
            obtain ⟨m5, hm5, hm6⟩ : ∃ m, t.size = m + 1 ∧ 2 ≤ m := by
              have h2 := readT_len HR.out
              have h3 : 3 ≤ (Tm.loop c5 i5 s5 u5).txt.length := by simp only [Tm.txt, List.length_cons, List.length_append]; omega
              exact ⟨t.size - 1, by omega, by omega⟩
            rw [hm5, Nat.add_sub_cancel] at htx
            have hw5 : IntKind.i64.wrap (m5 : Int) = (m5 : Int) := IntWalk.i64_in _ (by omega)
            have hw6 : (t.extract 1 2).size = 1 := by rw [ByteArray.size_extract]; omega
            have hw7 : (t.extract m5 (m5 + 1)).size = 1 := by rw [ByteArray.size_extract]; omega
            obtain ⟨b5, off5, rfl, hc0⟩ := HSr.out.at_ hp0
            rw [Nat.add_zero] at hc0
            obtain ⟨b6, off6, e6, hc1⟩ := HSr.out.at_ hp1
            cases e6
            clear hx0 hp0 hx1 hp1
            go_wp2_with fail
            go_quiet (fail)
            go_wp2_with fail
            refine (S1.out _).mono ?_
            rintro e wc ⟨rfl, hgc⟩
            have HGc := Lib.hid (HGr.out.trans ((gr_drewN _ _ none).trans hgc))
            clear hgc
            go_wp2_with fail
            refine (L1.out _).mono ?_
            rintro e wd ⟨rfl, hgd⟩
            have HGd := Lib.hid (HGc.out.trans hgd)
            clear hgd
            go_wp2_with fail
            go_ret
            exact ⟨rfl, HGd.out⟩
      · have e91 : (sg.toList == [91]) = false := sign_ne (show sg = one 123 by rw [HSGN.out]; simp only [Tm.sgn]; rw [hc91]) (by omega) (by omega) (show (123 : Int) ≠ 91 by omega) rfl (by omega)
        have e123 : (sg.toList == [123]) = true := by have h9 := sign_eq (show sg = one 123 by rw [HSGN.out]; simp only [Tm.sgn]; rw [hc91]); exact h9
        go_wp2_with fail
        go_loopw [6, 7, 77] (fun a b i wr => ∃ j : Nat, j ≤ np ∧ i = .int .i64 j ∧ a = .int .i64 (sAt P j) ∧ b = .int .i64 (vAt P true j) ∧ Hid (w.grownBy wr none) ∧ Hid (Strs wr A2 P)) (fun _ _ i _ => np - (intOf i).toNat)
        case atStart => exact ⟨0, Nat.zero_le _, rfl, rfl, rfl, HG12, HS12⟩
        case round =>
          obtain ⟨j, hj, rfl, rfl, rfl, HGr, HSr⟩ := hrel
          by_cases hlt : j < np
          · obtain ⟨z, hz⟩ : ∃ z, P[j]? = some z := ⟨_, List.getElem?_eq_getElem (by have := HNP.out; omega)⟩
            obtain ⟨b5, off5, rfl, hcell⟩ := HSr.out.at_ hz
            have hzb := HZB.out z (List.mem_of_getElem? hz)
            have hzd : P.getD j ⟨#[]⟩ = z := by rw [List.getD_eq_getElem?_getD, hz]; rfl
            have HS1 := Lib.hid (show sAt P (j + 1) = sAt P j + tsizeA z by simp only [sAt, hzd])
            have HV1 := Lib.hid (show vAt P true (j + 1) = max (vAt P true j) (tlevA z + if true = true ∧ j = 1 then 1 else 0) by simp only [vAt, hzd])
            have hb1 := sAt_bd P j
            have hb2 := vAt_bd P true j
            have hb3 := tsizeA_bd z
            have hb4 := tlevA_bd z
            have Z1 := Lib.hid (fun w => tsize_impl z hzb w)
            have Z2 := Lib.hid (fun w => tlev_impl z hzb w)
            obtain ⟨a1, ha1⟩ : ∃ x, sAt P j = x := ⟨_, rfl⟩
            obtain ⟨a2, ha2⟩ : ∃ x, vAt P true j = x := ⟨_, rfl⟩
            obtain ⟨a3, ha3⟩ : ∃ x, tsizeA z = x := ⟨_, rfl⟩
            obtain ⟨a4, ha4⟩ : ∃ x, tlevA z = x := ⟨_, rfl⟩
            rw [ha1, ha3] at HS1
            rw [ha2, ha4] at HV1
            rw [ha1] at hb1
            rw [ha2] at hb2
            rw [ha3] at hb3 Z1
            rw [ha4] at hb4 Z2
            rw [ha1, ha2]
            have q1 : IntKind.i64.wrap (a1 + a3) = a1 + a3 := IntWalk.i64_in _ (by omega)
            have q2 : IntKind.i64.wrap (a4 + 1) = a4 + 1 := IntWalk.i64_in _ (by omega)
            clear hz hzd ha1 ha2 ha3 ha4
            go_wp2_with fail
            refine (Z1.out _).mono ?_
            rintro e wa ⟨rfl, hga⟩
            have HGa := Lib.hid (HGr.out.trans hga)
            have HSa := Lib.hid (HSr.out.grown hga)
            clear hga hcell
            go_wp2_with fail
            refine (Z2.out _).mono ?_
            rintro e wb ⟨rfl, hgb⟩
            have HGb := Lib.hid (HGa.out.trans hgb)
            have HSb := Lib.hid (HSa.out.grown hgb)
            clear hgb
            by_cases hj1 : j = 1
            · subst hj1
              go_wp2_with fail
              go_roundw
              case rel => exact ⟨1 + 1, by omega, by go_num, by rw [HS1.out], by rw [HV1.out]; simp, HGb, HSb⟩
              case measure => simp [intOf]; omega
            · have hj2 : ((j : Int) == 1) = false := by rw [beq_eq_false_iff_ne]; omega
              go_wp2_with fail
              go_roundw
              case rel => exact ⟨j + 1, by omega, by go_num, by rw [HS1.out], by rw [HV1.out]; simp [hj1], HGb, HSb⟩
              case measure => simp [intOf]; omega
          · have hjn : j = np := by omega
            subst hjn
            rw [HSE.out, HVE.out]
            have hvz : (lv == lv) = true := by simp
            have hsz : (sz == sz) = true := by simp
            clear hj hlt
            have hsg1 : sg.size = 1 := by rw [HSGN.out, one_size]
            obtain ⟨x0, hx0⟩ : ∃ x, bytesOf s5.txt = x := ⟨_, rfl⟩
            have hp0 : P[0]? = some x0 := by rw [← hx0, ← HP.out, parts_some HR.out]; rfl
            have hz0 : x0.size ≤ 80 := by
              have h1 := (Tm.kids_ok hok (show s5 ∈ Tm.kids _ by simp [Tm.kids])).2
              have h2 := readT_len HR.out
              have h3 := (readT_some HR.out).1
              rw [← hx0, bytesOf_size]
              omega
            obtain ⟨x1, hx1⟩ : ∃ x, bytesOf u5.txt = x := ⟨_, rfl⟩
            have hp1 : P[1]? = some x1 := by rw [← hx1, ← HP.out, parts_some HR.out]; rfl
            have hz1 : x1.size ≤ 80 := by
              have h1 := (Tm.kids_ok hok (show u5 ∈ Tm.kids _ by simp [Tm.kids])).2
              have h2 := readT_len HR.out
              have h3 := (readT_some HR.out).1
              rw [← hx1, bytesOf_size]
              omega
            have htx := text_loop HR.out
            rw [hx0, hx1, ← show sg = one c5 from HSGN.out] at htx
            obtain ⟨m5, hm5, hm6⟩ : ∃ m, t.size = m + 1 ∧ 2 ≤ m := by
              have h2 := readT_len HR.out
              have h3 : 3 ≤ (Tm.loop c5 i5 s5 u5).txt.length := by simp only [Tm.txt, List.length_cons, List.length_append]; omega
              exact ⟨t.size - 1, by omega, by omega⟩
            rw [hm5, Nat.add_sub_cancel] at htx
            have hw5 : IntKind.i64.wrap (m5 : Int) = (m5 : Int) := IntWalk.i64_in _ (by omega)
            have hw6 : (t.extract 1 2).size = 1 := by rw [ByteArray.size_extract]; omega
            have hw7 : (t.extract m5 (m5 + 1)).size = 1 := by rw [ByteArray.size_extract]; omega
            obtain ⟨b5, off5, rfl, hc0⟩ := HSr.out.at_ hp0
            rw [Nat.add_zero] at hc0
            obtain ⟨b6, off6, e6, hc1⟩ := HSr.out.at_ hp1
            cases e6
            clear hx0 hp0 hx1 hp1
            go_wp2_with fail
            go_quiet (fail)
            go_wp2_with fail
            refine (S1.out _).mono ?_
            rintro e wc ⟨rfl, hgc⟩
            have HGc := Lib.hid (HGr.out.trans ((gr_drewN _ _ none).trans hgc))
            clear hgc
            go_wp2_with fail
            refine (L1.out _).mono ?_
            rintro e wd ⟨rfl, hgd⟩
            have HGd := Lib.hid (HGc.out.trans hgd)
            clear hgd
            go_wp2_with fail
            go_ret
            exact ⟨rfl, HGd.out⟩

set_option maxRecDepth 100000 in
theorem dparts_lifted (os : Os) (started : os.Started) (H : Type) (enc : TypeId × Value → H) :
    ReturnsInHanded {} Try.checked os 5 .any (Rows.fnPartsSpec.pre6 enc Try.prog Try.f5 Rows.fnPartsRow.domain false) (Rows.fnPartsSpec.post enc Try.prog Try.f5 false true false false) := by
  refine returnsInHanded_of_change (C := Try.checked) knob_own started (by kernel_rfl) Try.func5
    (ChangeSpec.witness6 (enc := enc) (C := Try.checked) false ⟨#[], #[.slice none 0 0], []⟩ 8 (by kernel_rfl) (by kernel_rfl) (by kernel_rfl) (by kernel_rfl)) ?_
  intro W base args ds gs before hval0 hW hcnd _
  have hval : ∀ (j : Nat) t v, Try.f5.params[j]? = some t → args[j]? = some v → Value.okWide Try.prog W .any base t v := hval0
  have hW' := hW
  obtain ⟨p, q, hA0, hV, rfl, hfz, hnd⟩ := hW
  have hA : DataW.TrodAll enc Try.prog W 0 (fun _ => true) true Try.f5.params.toList args.toList ds p := hA0
  rw [Try.params5] at hA hval
  obtain ⟨v0, d0, rfl, rfl, h0⟩ := trodAll_one hA
  obtain ⟨rfl, rfl⟩ := trodVars_none hV
  obtain ⟨A, n, c, rfl, a1, a2, a3⟩ := open_bytsT (hval 0 27 v0 rfl rfl) h0
  clear hA0 hval0
  simp only [List.append_nil] at hW'
  have hlt : ∀ x ∈ p, x.block < W.heap.size := fun x hx => by simpa using hW'.lt x hx
  refine (law_dparts A n c W a3 a1 a2).mono fun e W' ⟨he, hg⟩ => ?_
  subst he
  refine ⟨_, rfl, _, _, _, [], p, [], hW', ?_, ?_, rfl, (below_of hg).frame _, fun h => by cases h⟩
  · exact trodAll_mk1 (shut_bool Try.underlying4 _)
  · exact trodAll_mk1 (Below.trod laid_out_p (by kernel_rfl) (of_decide_eq_true (by kernel_rfl)) h0 (below_of hg) hlt)

theorem dparts_holds : Rows.FnPartsSaid :=
  OpenClaim.holds_of_wide 5 Try.f5 rfl rfl rfl rfl rfl rfl rfl ⟨rfl, rfl, rfl, rfl, rfl⟩ rfl rfl rfl rfl rfl fdparts_name Try.func5 fdparts_all fdparts_inst fdparts_wrap
    (fun os started H enc _ => (dparts_lifted os started H enc))

#print axioms dparts_holds

end Go.Proofs.Ytmofoeljajdhmaa
