/- What PlaceOf does, of the program and of the model. -/
import Derived.Test.YtbideeajdhejoaaSWrong
import Derived.Deep.RegionLaw
namespace Go.Proofs.Ytbideeajdhejoaa
open Go.RowKit

/-- What PlaceOf returns. -/
def placeR (LL : List (List Int)) (D path : List Int) : Int := if wrong LL D = -1 ∧ path.length = LL.length then placeAt 0 LL path else -1

theorem Ints.take {w : World} {A : Option Addr} {L : List Int} (h : Ints w A L) (p : Nat) : Ints w A (L.take p) := fun hl => by
  have hl2 : 0 < L.length := by rw [List.length_take] at hl; omega
  obtain ⟨b, off, rfl, hb, hc⟩ := h hl2
  refine ⟨b, off, rfl, hb, fun j z hj => hc j z ?_⟩
  rw [List.getElem?_take] at hj
  split at hj
  · exact hj
  · cases hj

theorem Lyt.rws {w : World} {A B : Option Addr} {n c m d : Nat} {LL : List (List Int)} {D : List Int} (h : Lyt w (.agg #[.slice A n c, .slice B m d]) LL D) : Rws w A LL ∧ Ints w B D ∧ LL.length ≤ c ∧ D.length ≤ d := by
  obtain ⟨A', c', B', d', hu, h1, h2, h3, h4⟩ := h
  cases hu
  exact ⟨h3, h4, h1, h2⟩
/-- What is known at a level of the walk along a path. -/
def At (LL : List (List Int)) (path : List Int) (r : Int) (j p : Nat) : Prop :=
  placeAt p (LL.drop j) (path.drop j) = r ∧ ∀ M, LL[j]? = some M → p < M.length
theorem at_start {LL : List (List Int)} {D path : List Int} {r : Int} (hf : Fits 1 LL D) (hr : placeAt 0 LL path = r) : At LL path r 0 0 := by
  refine ⟨hr, fun M hM => ?_⟩
  cases LL with
  | nil => simp at hM
  | cons L LL =>
    simp only [List.getElem?_cons_zero, Option.some.injEq] at hM
    subst hM
    have := hf.1
    omega
theorem at_next {LL : List (List Int)} {D path : List Int} {r : Int} {j p : Nat} {L : List Int} {i n : Int} (hf : Fits 1 LL D) (h : At LL path r j p) (hL : LL[j]? = some L) (hi : path[j]? = some i) (hn : L[p]? = some n) (h0 : 0 ≤ i) (h1 : i < n) :
    At LL path r (j + 1) (sumI (L.take p) + i).toNat ∧ 0 ≤ sumI (L.take p) + i ∧ sumI (L.take p) + i < sumI L := by
  obtain ⟨hok, hfd, _⟩ := fits_drop hf hL
  obtain ⟨h2, h3, h4⟩ := fits_next hfd hok hn h0 h1
  exact ⟨⟨place_next hL hi hn h.1 h0 h1, h2⟩, h3, h4⟩
theorem at_stop {LL : List (List Int)} {path : List Int} {r : Int} {j p : Nat} {L : List Int} {i n : Int} (h : At LL path r j p) (hL : LL[j]? = some L) (hi : path[j]? = some i) (hn : L[p]? = some n) (h1 : ¬ (0 ≤ i ∧ i < n)) : r = -1 :=
  place_stop hL hi hn h.1 h1
theorem at_end {LL : List (List Int)} {path : List Int} {r : Int} {j p : Nat} (h : At LL path r j p) (hj : LL.length ≤ j) : r = p := place_end hj h.1

set_option maxHeartbeats 1000000 in
theorem place_any (A B E : Option Addr) (c d e : Nat) (LL : List (List Int)) (D path : List Int) (w : World) (h : Lyt w (.agg #[.slice A LL.length c, .slice B D.length d]) LL D) (hp : Ints w E path) (hn : LL.length + totL LL + D.length ≤ 1048576) (hpn : path.length ≤ 1048576) :
    Calls Try.prog 23 #[.agg #[.slice A LL.length c, .slice B D.length d], .slice E path.length e] w fun e w' => e = .returned (.int .i64 (placeR LL D path)) ∧ w.grownBy w' none := by
  have HV := Lib.hid (fun w h => layok_any (.agg #[.slice A LL.length c, .slice B D.length d]) LL D w h hn)
  have H := Lib.hid h
  have hm := totm hn
  have HM := Lib.hid hm
  have HPA := Lib.hid hp
  have hrw := h.rws.1
  have HRW := Lib.hid hrw
  obtain ⟨n, hnn⟩ : ∃ n, LL.length = n := ⟨_, rfl⟩
  obtain ⟨m, hmm⟩ : ∃ m, D.length = m := ⟨_, rfl⟩
  obtain ⟨k, hk⟩ : ∃ k, path.length = k := ⟨_, rfl⟩
  have HN := Lib.hid hnn
  have HK := Lib.hid hk
  obtain ⟨r, hr⟩ : ∃ r, placeR LL D path = r := ⟨_, rfl⟩
  obtain ⟨q, hq⟩ : ∃ q, decide (wrong LL D = -1) = q := ⟨_, rfl⟩
  have HR := Lib.hid hr
  have HQ := Lib.hid hq
  rw [hq, hmm, hnn] at HV
  rw [hmm, hnn] at H
  rw [hr, hmm, hnn, hk]
  have hn1 : n ≤ 1048576 := by omega
  have hk1 : k ≤ 1048576 := by omega
  clear h hm hrw hp hn hpn hnn hmm hk hr hq
  have HG0 := Lib.hid (World.grownBy_alloc w (.cells #[.slice A n c, .slice B m d] 28) none)
  have HP0 := Lib.hid (Pr.new w 28 (.slice A n c) (.slice B m d))
  cases q
  · go_enter Try.func23, Try.ntmps23
    go_wp2_with fail
    refine (HV.out _ (H.out.grown HG0.out)).mono ?_
    rintro e w1 ⟨rfl, hg1⟩
    have HG1 := Lib.hid (HG0.out.trans hg1)
    clear hg1
    go_wp2_with fail
    go_ret
    refine ⟨?_, HG1.out⟩
    rw [← HR.out, placeR, if_neg (by have := decide_eq_false_iff_not.1 HQ.out; intro h; exact this h.1)]
    rfl
  · by_cases hkn : k = n
    · subst hkn
      have hw := decide_eq_true_iff.1 HQ.out
      have hR := HR.out
      rw [placeR, if_pos ⟨hw, by rw [HK.out, HN.out]⟩] at hR
      obtain ⟨h3, hf⟩ := wrong_fits hw
      have HF := Lib.hid hf
      have HST := Lib.hid (at_start hf hR)
      have hkk : ((k : Int) != (k : Int)) = false := by simp
      clear hw hR h3 hf
      go_enter Try.func23, Try.ntmps23
      go_wp2_with fail
      refine (HV.out _ (H.out.grown HG0.out)).mono ?_
      rintro e w1 ⟨rfl, hg1⟩
      have HG1 := Lib.hid (HG0.out.trans hg1)
      have HP1 := Lib.hid (HP0.out.grown hg1 (by simp))
      clear hg1
      have p0 := HP1.out.c0
      go_wp2_with fail
      clear p0 hkk
      go_loopw [5, 22] (fun u i wr => ∃ (j p : Nat), j ≤ k ∧ i = .int .i64 j ∧ u = .int .i64 p ∧ p ≤ 1000000000 ∧ Hid (At LL path r j p) ∧ Hid (w1.grownBy wr none)) (fun _ i _ => k - (intOf i).toNat)
      case atStart => exact ⟨0, 0, Nat.zero_le _, rfl, rfl, by omega, HST, Lib.hid (gr_refl _ _)⟩
      case round =>
        obtain ⟨j, p, hj, rfl, rfl, hp, hat, hgr⟩ := hrel
        by_cases hlt : j < k
        · obtain ⟨L, hL⟩ : ∃ L, LL[j]? = some L := ⟨_, List.getElem?_eq_getElem (by have := HN.out; omega)⟩
          obtain ⟨x, hx⟩ : ∃ x, path[j]? = some x := ⟨_, List.getElem?_eq_getElem (by have := HK.out; omega)⟩
          have hpl := hat.out.2 L hL
          obtain ⟨y, hy⟩ : ∃ y, L[p]? = some y := ⟨_, List.getElem?_eq_getElem hpl⟩
          obtain ⟨b, off, B2, c2, rfl, hcell, hcap, hi⟩ := (HRW.out.grown (HG1.out.trans hgr.out)).at_ hL
          obtain ⟨b3, off3, rfl, _, hc3⟩ := (HPA.out.grown (HG1.out.trans hgr.out) (by simp)) (by have := HK.out; omega)
          have hcell3 := hc3 j x hx
          obtain ⟨b4, off4, rfl, _, hc4⟩ := hi (by omega)
          have hcell4 := hc4 p y hy
          have hll := HM.out L (List.mem_of_getElem? hL)
          have HL := Lib.hid hL
          have HX := Lib.hid hx
          have HY := Lib.hid hy
          have p0 := (HP1.out.grown hgr.out (by simp)).c0
          have hokL := (fits_drop HF.out hL).1
          have HC := Lib.hid (fun n => sumof_any (some ⟨b4, off4, none⟩) c2 (L.take p) (wr.drewN n) ((hi.take p).grown (gr_drewN _ _ none) (by simp)) (okN_take hokL p) (by rw [List.length_take]; omega))
          have hsb := sumI_take_bound hokL p
          obtain ⟨hsb0, hsb1⟩ := hsb
          obtain ⟨q, hq⟩ : ∃ q, L.length = q := ⟨_, rfl⟩
          rw [List.length_take, Nat.min_eq_left (by omega)] at HC
          obtain ⟨sm, hsm⟩ : ∃ sm, sumI (L.take p) = sm := ⟨_, rfl⟩
          have HSM := Lib.hid hsm
          rw [hsm] at HC hsb0 hsb1
          rw [hq] at hcell hcap hpl hll
          have HOKL := Lib.hid hokL
          have HQ := Lib.hid hq
          clear hL hx hy hc3 hc4 hokL hi hq hsm
          by_cases h0 : x < 0
          · go_wp2_with fail
            go_ret
            refine ⟨?_, HG1.out.trans hgr.out⟩
            rw [at_stop hat.out HL.out HX.out HY.out (by omega)]
            rfl
          · by_cases h1 : y ≤ x
            · go_wp2_with fail
              go_ret
              refine ⟨?_, HG1.out.trans hgr.out⟩
              rw [at_stop hat.out HL.out HX.out HY.out (by omega)]
              rfl
            · have hx0 : 0 ≤ x := by omega
              have hx1 : x < y := by omega
              have hnx := at_next HF.out hat.out HL.out HX.out HY.out hx0 hx1
              have hyb := okN_at HY.out HOKL.out
              rw [HSM.out] at hnx
              obtain ⟨hn1', hn2', hn3'⟩ := hnx
              have HAT := Lib.hid hn1'
              have hy4 : y ≤ 400 := hyb.2
              clear hn1' hn3' hyb
              go_wp2_with fail
              refine (HC.out 0).mono ?_
              rintro e w5 ⟨rfl, rfl⟩
              go_wp2_with fail
              go_roundw
              case rel => exact ⟨j + 1, (sm + x).toNat, by omega, by go_num, by rw [Int.toNat_of_nonneg hn2'], by omega, HAT, hgr⟩
              case measure => simp [intOf]; omega
        · have hjn : j = k := by omega
          have HJ := Lib.hid hjn
          clear hjn
          have he := at_end hat.out (show LL.length ≤ j by have := HN.out; have := HJ.out; omega)
          have HE := Lib.hid he
          clear he
          go_wp2_with fail
          go_ret
          refine ⟨?_, HG1.out.trans hgr.out⟩
          rw [HE.out]
          rfl
    · have hkk : ((k : Int) != (n : Int)) = true := by simp; omega
      have HKN := Lib.hid hkn
      clear hkn
      go_enter Try.func23, Try.ntmps23
      go_wp2_with fail
      refine (HV.out _ (H.out.grown HG0.out)).mono ?_
      rintro e w1 ⟨rfl, hg1⟩
      have HG1 := Lib.hid (HG0.out.trans hg1)
      have HP1 := Lib.hid (HP0.out.grown hg1 (by simp))
      clear hg1
      have p0 := HP1.out.c0
      go_wp2_with fail
      go_ret
      refine ⟨?_, HG1.out⟩
      rw [← HR.out, placeR, if_neg (by have := HKN.out; have := HK.out; have := HN.out; omega)]
      rfl

set_option maxHeartbeats 1000000 in
theorem splace_any (A B E : Option Addr) (c d e : Nat) (LL : List (List Int)) (D path : List Int) (w : World) (h : Lyt w (.agg #[.slice A LL.length c, .slice B D.length d]) LL D) (hp : Ints w E path) (hn : LL.length + totL LL + D.length ≤ 1048576) (hpn : path.length ≤ 1048576) :
    Calls Try.prog 21 #[.agg #[.slice A LL.length c, .slice B D.length d], .slice E path.length e] w fun e w' => e = .returned (.int .i64 (placeR LL D path)) ∧ w.grownBy w' none := by
  have HV := Lib.hid (fun w h => slayok_any (.agg #[.slice A LL.length c, .slice B D.length d]) LL D w h hn)
  have H := Lib.hid h
  have hm := totm hn
  have HM := Lib.hid hm
  have HPA := Lib.hid hp
  have hrw := h.rws.1
  have HRW := Lib.hid hrw
  obtain ⟨n, hnn⟩ : ∃ n, LL.length = n := ⟨_, rfl⟩
  obtain ⟨m, hmm⟩ : ∃ m, D.length = m := ⟨_, rfl⟩
  obtain ⟨k, hk⟩ : ∃ k, path.length = k := ⟨_, rfl⟩
  have HN := Lib.hid hnn
  have HK := Lib.hid hk
  obtain ⟨r, hr⟩ : ∃ r, placeR LL D path = r := ⟨_, rfl⟩
  obtain ⟨q, hq⟩ : ∃ q, decide (wrong LL D = -1) = q := ⟨_, rfl⟩
  have HR := Lib.hid hr
  have HQ := Lib.hid hq
  rw [hq, hmm, hnn] at HV
  rw [hmm, hnn] at H
  rw [hr, hmm, hnn, hk]
  have hn1 : n ≤ 1048576 := by omega
  have hk1 : k ≤ 1048576 := by omega
  clear h hm hrw hp hn hpn hnn hmm hk hr hq
  have HG0 := Lib.hid (World.grownBy_alloc w (.cells #[.slice A n c, .slice B m d] 28) none)
  have HP0 := Lib.hid (Pr.new w 28 (.slice A n c) (.slice B m d))
  cases q
  · go_enter Try.func21, Try.ntmps21
    go_wp2_with fail
    refine (HV.out _ (H.out.grown HG0.out)).mono ?_
    rintro e w1 ⟨rfl, hg1⟩
    have HG1 := Lib.hid (HG0.out.trans hg1)
    clear hg1
    go_wp2_with fail
    go_ret
    refine ⟨?_, HG1.out⟩
    rw [← HR.out, placeR, if_neg (by have := decide_eq_false_iff_not.1 HQ.out; intro h; exact this h.1)]
    rfl
  · by_cases hkn : k = n
    · subst hkn
      have hw := decide_eq_true_iff.1 HQ.out
      have hR := HR.out
      rw [placeR, if_pos ⟨hw, by rw [HK.out, HN.out]⟩] at hR
      obtain ⟨h3, hf⟩ := wrong_fits hw
      have HF := Lib.hid hf
      have HST := Lib.hid (at_start hf hR)
      have hkk : ((k : Int) != (k : Int)) = false := by simp
      clear hw hR h3 hf
      go_enter Try.func21, Try.ntmps21
      go_wp2_with fail
      refine (HV.out _ (H.out.grown HG0.out)).mono ?_
      rintro e w1 ⟨rfl, hg1⟩
      have HG1 := Lib.hid (HG0.out.trans hg1)
      have HP1 := Lib.hid (HP0.out.grown hg1 (by simp))
      clear hg1
      have p0 := HP1.out.c0
      go_wp2_with fail
      clear p0 hkk
      go_loopw [5, 21] (fun u i wr => ∃ (j p : Nat), j ≤ k ∧ i = .int .i64 j ∧ u = .int .i64 p ∧ p ≤ 1000000000 ∧ Hid (At LL path r j p) ∧ Hid (w1.grownBy wr none)) (fun _ i _ => k - (intOf i).toNat)
      case atStart => exact ⟨0, 0, Nat.zero_le _, rfl, rfl, by omega, HST, Lib.hid (gr_refl _ _)⟩
      case round =>
        obtain ⟨j, p, hj, rfl, rfl, hp, hat, hgr⟩ := hrel
        by_cases hlt : j < k
        · obtain ⟨L, hL⟩ : ∃ L, LL[j]? = some L := ⟨_, List.getElem?_eq_getElem (by have := HN.out; omega)⟩
          obtain ⟨x, hx⟩ : ∃ x, path[j]? = some x := ⟨_, List.getElem?_eq_getElem (by have := HK.out; omega)⟩
          have hpl := hat.out.2 L hL
          obtain ⟨y, hy⟩ : ∃ y, L[p]? = some y := ⟨_, List.getElem?_eq_getElem hpl⟩
          obtain ⟨b, off, B2, c2, rfl, hcell, hcap, hi⟩ := (HRW.out.grown (HG1.out.trans hgr.out)).at_ hL
          obtain ⟨b3, off3, rfl, _, hc3⟩ := (HPA.out.grown (HG1.out.trans hgr.out) (by simp)) (by have := HK.out; omega)
          have hcell3 := hc3 j x hx
          obtain ⟨b4, off4, rfl, _, hc4⟩ := hi (by omega)
          have hcell4 := hc4 p y hy
          have hll := HM.out L (List.mem_of_getElem? hL)
          have HL := Lib.hid hL
          have HX := Lib.hid hx
          have HY := Lib.hid hy
          have p0 := (HP1.out.grown hgr.out (by simp)).c0
          have hokL := (fits_drop HF.out hL).1
          have HC := Lib.hid (fun n => sumof_any (some ⟨b4, off4, none⟩) c2 (L.take p) (wr.drewN n) ((hi.take p).grown (gr_drewN _ _ none) (by simp)) (okN_take hokL p) (by rw [List.length_take]; omega))
          have hsb := sumI_take_bound hokL p
          obtain ⟨hsb0, hsb1⟩ := hsb
          obtain ⟨q, hq⟩ : ∃ q, L.length = q := ⟨_, rfl⟩
          rw [List.length_take, Nat.min_eq_left (by omega)] at HC
          obtain ⟨sm, hsm⟩ : ∃ sm, sumI (L.take p) = sm := ⟨_, rfl⟩
          have HSM := Lib.hid hsm
          rw [hsm] at HC hsb0 hsb1
          rw [hq] at hcell hcap hpl hll
          have HOKL := Lib.hid hokL
          have HQ := Lib.hid hq
          have HSS := Lib.hid (ssum_any (some ⟨b4, off4, none⟩) c2 (L.take p) wr (hi.take p) (by rw [List.length_take]; omega))
          rw [if_pos (okN_take hokL p), List.length_take, Nat.min_eq_left (by omega), hsm] at HSS
          have hyb := okN_at hy hokL
          obtain ⟨hy0, hy4⟩ := hyb
          clear hL hx hy hc3 hc4 hokL hi hq hsm
          obtain ⟨t, ht⟩ : ∃ t, decide (0 ≤ x ∧ x ≤ y - 1) = t := ⟨_, rfl⟩
          have HI := Lib.hid (in_any x 0 (y - 1) t ht wr)
          have HT := Lib.hid ht
          clear ht
          have wy : IntKind.i64.wrap (y - 1) = y - 1 := IntWalk.i64_in _ (by omega)
          cases t
          · go_wp2_with fail
            refine HI.out.mono ?_
            rintro e w5 ⟨rfl, rfl⟩
            go_wp2_with fail
            go_ret
            refine ⟨?_, HG1.out.trans hgr.out⟩
            rw [at_stop hat.out HL.out HX.out HY.out (by have := decide_eq_false_iff_not.1 HT.out; omega)]
            rfl
          · have hx2 := decide_eq_true_iff.1 HT.out
            obtain ⟨hx0, hx1⟩ := hx2
            have hnx := at_next HF.out hat.out HL.out HX.out HY.out hx0 (by omega)
            rw [HSM.out] at hnx
            obtain ⟨hn1', hn2', hn3'⟩ := hnx
            have HAT := Lib.hid hn1'
            clear hn1' hn3'
            go_wp2_with fail
            refine HI.out.mono ?_
            rintro e w5 ⟨rfl, rfl⟩
            go_wp2_with fail
            refine HSS.out.mono ?_
            rintro e w5 ⟨rfl, rfl⟩
            go_wp2_with fail
            go_roundw
            case rel => exact ⟨j + 1, (sm + x).toNat, by omega, by go_num, by rw [Int.toNat_of_nonneg hn2'], by omega, HAT, hgr⟩
            case measure => simp [intOf]; omega
        · have hjn : j = k := by omega
          have HJ := Lib.hid hjn
          clear hjn
          have he := at_end hat.out (show LL.length ≤ j by have := HN.out; have := HJ.out; omega)
          have HE := Lib.hid he
          clear he
          go_wp2_with fail
          go_ret
          refine ⟨?_, HG1.out.trans hgr.out⟩
          rw [HE.out]
          rfl
    · have hkk : ((k : Int) != (n : Int)) = true := by simp; omega
      have HKN := Lib.hid hkn
      clear hkn
      go_enter Try.func21, Try.ntmps21
      go_wp2_with fail
      refine (HV.out _ (H.out.grown HG0.out)).mono ?_
      rintro e w1 ⟨rfl, hg1⟩
      have HG1 := Lib.hid (HG0.out.trans hg1)
      have HP1 := Lib.hid (HP0.out.grown hg1 (by simp))
      clear hg1
      have p0 := HP1.out.c0
      go_wp2_with fail
      go_ret
      refine ⟨?_, HG1.out⟩
      rw [← HR.out, placeR, if_neg (by have := HKN.out; have := HK.out; have := HN.out; omega)]
      rfl

end Go.Proofs.Ytbideeajdhejoaa
