/- The law FnMost: whatever the input, true. -/
import Derived.Test.YtpakihjkjdanlabDrawn
import Derived.Test.YtpakihjkjdanlabBothmostseg
import Derived.Test.YtpakihjkjdanlabStartsI
import Derived.Test.YtpakihjkjdanlabGdmost
namespace Go.Proofs.Ytpakihjkjdanlab
open Go.ChangeShapes Go.WideShapes Go.ChangeAt Go.RowKit

theorem fold_max : ∀ (l : List Int) (a : Int), a ≤ l.foldl mostF a ∧ (∀ x ∈ l, x ≤ l.foldl mostF a) ∧ (l.foldl mostF a = a ∨ l.foldl mostF a ∈ l)
  | [], a => ⟨Int.le_refl _, by simp, .inl rfl⟩
  | y :: l, a => by
    obtain ⟨h1, h2, h3⟩ := fold_max l (mostF a y)
    have hm : mostF a y = max a y := rfl
    rw [List.foldl_cons]
    refine ⟨by omega, ?_, ?_⟩
    · intro x hx
      rcases List.mem_cons.1 hx with rfl | hx
      · omega
      · exact h2 x hx
    · rcases h3 with h3 | h3
      · by_cases hay : y ≤ a
        · exact .inl (by rw [h3]; omega)
        · exact .inr (by rw [h3, show mostF a y = y from by omega]; exact List.mem_cons_self)
      · exact .inr (List.mem_cons_of_mem _ h3)

/-- What the law looks for. -/
theorem most_pure {L D : List Int} (hs : segsB L D = true) {i : Nat} {z : Int} (hz : L[i]? = some z) :
    ∃ (s n : Nat) (M : Int), z = (n : Int) ∧ s + n ≤ D.length ∧ (startsR L)[i]? = some (s : Int) ∧ (mostR L D)[i]? = some M ∧ (n = 0 → M = 0) ∧
      (∀ x ∈ (D.drop s).take n, x ≤ M) ∧ (0 < n → M ∈ (D.drop s).take n) := by
  obtain ⟨hl, hd, hok⟩ := segsB_get hs
  obtain ⟨_, hlo, h4, h0⟩ := lensB_get hl
  obtain ⟨hz0, hz4, hs0, hsz⟩ := sumI_le hlo hz
  have hcut := cutI_at L D i z hlo hz
  have hin := cutI_in L D i _ hok hcut
  refine ⟨(sumI (L.take i)).toNat, z.toNat, _, by omega, by omega, ?_, ?_, ?_, (fold_max _ 0).2.1, ?_⟩
  · rw [startsR, if_pos hl, startsI_at L 0 i z hz]
    congr 1
    omega
  · rw [mostR, if_pos hs, List.getElem?_map, hcut]
    rfl
  · intro h
    simp [h]
  · intro hn
    rcases (fold_max ((D.drop (sumI (L.take i)).toNat).take z.toNat) 0).2.2 with h | h
    · have hlen : ((D.drop (sumI (L.take i)).toNat).take z.toNat).length = z.toNat := by rw [List.length_take, List.length_drop]; omega
      have h0 : 0 < ((D.drop (sumI (L.take i)).toNat).take z.toNat).length := by omega
      have hx := List.getElem_mem h0
      have h1 := (fold_max ((D.drop (sumI (L.take i)).toNat).take z.toNat) 0).2.1 _ hx
      have h2 := okN_at (List.getElem?_eq_getElem h0) hin.1
      rw [show ((D.drop (sumI (L.take i)).toNat).take z.toNat).foldl mostF 0 = ((D.drop (sumI (L.take i)).toNat).take z.toNat)[0] from by omega]
      exact hx
    · exact h

theorem most_len {L D : List Int} (hs : segsB L D = true) : (mostR L D).length = L.length := by rw [mostR, if_pos hs, List.length_map, cutI_len]
theorem most_le {L D : List Int} (hL : L.length ≤ 1048576) : (mostR L D).length ≤ 1048576 := by
  unfold mostR
  split
  · rw [List.length_map, cutI_len]; exact hL
  · simp

set_option maxRecDepth 100000 in
set_option maxHeartbeats 8000000 in
theorem law_dmost (A : Option Addr) (n c : Nat) (w : World) (hB : Byts w A n) (hc : n ≤ c) (hn : n ≤ 9223372036854775807) :
    Calls Try.prog 11 #[.slice A n c] w fun e w' => e = .returned (.bool true) ∧ w.grownBy w' none := by
  by_cases h1 : 1048576 < n
  · clear hB
    go_enter Try.func11, Try.ntmps11
    go_wp2_with fail
    go_ret
    exact ⟨rfl, gr_refl _ _⟩
  have HD := Lib.hid (drawmost_any A n c w hB hc hn)
  clear hB hc
  go_enter Try.func11, Try.ntmps11
  go_wp2_with fail
  refine HD.out.mono ?_
  rintro e w1 ⟨u, v, L, D, rfl, hu, hv, hL, hD, hg⟩
  have HLL := Lib.hid (show L.length ≤ 1048576 by omega)
  obtain ⟨z, hz⟩ : ∃ z, (mostR L D).length = z := ⟨_, rfl⟩
  have HZ := Lib.hid hz
  obtain ⟨y, hy⟩ : ∃ y, (startsR L).length = y := ⟨_, rfl⟩
  have HY := Lib.hid hy
  obtain ⟨R, hR⟩ : ∃ R, segsB L D = R := ⟨_, rfl⟩
  have HR := Lib.hid hR
  obtain ⟨R2, hR2⟩ : ∃ R, lensB L = R := ⟨_, rfl⟩
  have HR2 := Lib.hid hR2
  have hm1 : ∀ w, OwnI w u L → OwnI w v D → Calls Try.prog 27 #[u, v] w (fun e w' => ∃ A c, e = .returned (.tuple #[.slice A z c, .bool R]) ∧ w.grownBy w' none ∧ w'.ownsRow w.heap.size 3 1 (.slice A z c) z ((mostR L D).map (Value.int .i64))) := fun w h h2 => by
    rw [← hz, ← hR]; exact most_impl u v L D w h h2 HLL.out (by omega)
  have hm2 : ∀ w, OwnI w u L → OwnI w v D → Calls Try.prog 26 #[u, v] w (fun e w' => ∃ A c, e = .returned (.tuple #[.slice A z c, .bool R]) ∧ w.grownBy w' none ∧ w'.ownsRow w.heap.size 3 1 (.slice A z c) z ((mostR L D).map (Value.int .i64))) := fun w h h2 => by
    rw [← hz, ← hR]; exact smostseg_spec u v L D w h h2 HLL.out (by omega)
  have hst : ∀ w, OwnI w u L → Calls Try.prog 21 #[u] w (fun e w' => ∃ A c, e = .returned (.tuple #[.slice A y c, .bool R2]) ∧ w.grownBy w' none ∧ w'.ownsRow w.heap.size 3 1 (.slice A y c) y ((startsR L).map (Value.int .i64))) := fun w h => by
    rw [← hy, ← hR2]; exact starts_impl u L w h HLL.out
  have hsm : ∀ A B c d w, Ints w A (mostR L D) → Ints w B (mostR L D) → Calls Try.prog 37 #[.slice A z c, .slice B z d] w fun e w' => e = .returned (.bool true) ∧ ∃ m, w' = w.drewN m := fun A B c d w h h2 => by
    rw [← hz]; exact same_any A B c d (mostR L D) w h h2 (most_le HLL.out)
  have HM1 := Lib.hid hm1
  have HM2 := Lib.hid hm2
  have HST := Lib.hid hst
  have HSM := Lib.hid hsm
  have HU := Lib.hid hu
  have HV := Lib.hid hv
  have HG := Lib.hid hg
  have hRR : (R != R) = false := by simp
  clear hu hv hg HD hz hy hR hR2 hm1 hm2 hst hsm
  go_wp2_with fail
  refine (HM1.out _ HU.out HV.out).mono ?_
  rintro e w2 ⟨A5, c5, rfl, hg, ho⟩
  have HG := Lib.hid (HG.out.trans hg)
  have HU := Lib.hid (HU.out.grown0 hg)
  have HV := Lib.hid (HV.out.grown0 hg)
  have HZ5 := Lib.hid (Ints.of_own (zs := mostR L D) (by rw [HZ.out]; exact ho))
  clear hg ho HM1
  go_wp2_with fail
  refine (HM2.out _ HU.out HV.out).mono ?_
  rintro e w3 ⟨A6, c6, rfl, hg, ho⟩
  have HG := Lib.hid (HG.out.trans hg)
  have HU := Lib.hid (HU.out.grown0 hg)
  have HV := Lib.hid (HV.out.grown0 hg)
  have HZ5 := Lib.hid (HZ5.out.grown hg (by simp))
  have HZ6 := Lib.hid (Ints.of_own (zs := mostR L D) (by rw [HZ.out]; exact ho))
  clear hg ho HM2
  go_wp2_with fail
  refine (HSM.out _ _ c5 c6 _ HZ5.out HZ6.out).mono ?_
  rintro e w4 ⟨rfl, q4, rfl⟩
  have HG := Lib.hid (HG.out.trans (gr_drewN w3 q4 none))
  have HU := Lib.hid (HU.out.grown0 (gr_drewN w3 q4 none))
  have HV := Lib.hid (HV.out.grown0 (gr_drewN w3 q4 none))
  have HZ5 := Lib.hid (HZ5.out.grown (gr_drewN w3 q4 none) (by simp))
  have HZ6 := Lib.hid (HZ6.out.grown (gr_drewN w3 q4 none) (by simp))
  generalize w3.drewN q4 = w4 at HG HU HV HZ5 HZ6 ⊢
  cases R with
  | false =>
    go_wp2_with fail
    refine (HSM.out _ _ c5 c6 _ HZ5.out HZ6.out).mono ?_
    rintro e w5 ⟨rfl, q5, rfl⟩
    have HG := Lib.hid (HG.out.trans (gr_drewN w4 q5 none))
    go_wp2_with fail
    go_ret
    exact ⟨rfl, HG.out⟩
  | true =>
    go_wp2_with fail
    refine (HST.out _ HU.out).mono ?_
    rintro e w5 ⟨A7, c7, rfl, hg, ho⟩
    have HG := Lib.hid (HG.out.trans hg)
    have HU := Lib.hid (HU.out.grown0 hg)
    have HV := Lib.hid (HV.out.grown0 hg)
    have HZ5 := Lib.hid (HZ5.out.grown hg (by simp))
    obtain ⟨j, hjj⟩ : ∃ j, L.length = j := ⟨_, rfl⟩
    obtain ⟨b, hbb⟩ : ∃ b, D.length = b := ⟨_, rfl⟩
    have HJ := Lib.hid hjj
    have HB := Lib.hid hbb
    obtain rfl : j = z := by rw [← HZ.out, most_len HR.out, hjj]
    obtain rfl : j = y := by rw [← HY.out, startsR, if_pos (segsB_get HR.out).1, startsI_len, hjj]
    have HZ7 := Lib.hid (Ints.of_own (zs := startsR L) (by rw [HY.out]; exact ho))
    obtain ⟨A3, c3, rfl, hI3⟩ : ∃ A3 c3, u = .slice A3 j c3 ∧ Ints w5 A3 L := by
      obtain ⟨A3, c3, e, h, _⟩ := HU.out.form
      exact ⟨A3, c3, by rw [e, hjj], h⟩
    obtain ⟨A4, c4, rfl, hI4, hc4⟩ : ∃ A4 c4, v = .slice A4 b c4 ∧ Ints w5 A4 D ∧ b ≤ c4 := by
      obtain ⟨A4, c4, e, h, h2, _⟩ := HV.out.form
      exact ⟨A4, c4, by rw [e, hbb], h, by omega⟩
    have HI3 := Lib.hid hI3
    have hj4 : j ≤ 400 := by omega
    have hb4 : b ≤ 400 := by omega
    have hjj' : ((j : Int) == (j : Int)) = true := by simp
    clear hg ho HST HSM hI3 hI4 hjj hbb hL hD HU HR2 hRR
    go_wp2_with fail
    go_loopw [64] (fun i wr => ∃ k : Nat, k ≤ j ∧ i = .int .i64 k ∧ Hid (∃ m, wr = w5.drewN m)) (fun i _ => j - (intOf i).toNat)
    case atStart => exact ⟨0, Nat.zero_le _, rfl, Lib.hid ⟨0, rfl⟩⟩
    case round =>
      obtain ⟨k, hk, rfl, hgr⟩ := hrel
      have HGR := Lib.hid (show w5.grownBy wr none by obtain ⟨m, rfl⟩ := hgr.out; exact gr_drewN _ _ _)
      obtain ⟨wo, rfl⟩ : ∃ wo : World, wo = wr := ⟨_, rfl⟩
      by_cases hlt : k < j
      · obtain ⟨x, hx⟩ : ∃ x, L[k]? = some x := ⟨_, List.getElem?_eq_getElem (by have := HJ.out; omega)⟩
        obtain ⟨s, q, M, rfl, hsq, hst, hM, hM0, hle, hin⟩ := most_pure HR.out hx
        obtain ⟨b3, o3, rfl, _, hc3⟩ := (HI3.out.grown HGR.out (by simp)) (by have := HJ.out; omega)
        have hcell3 := hc3 k _ hx
        obtain ⟨b7, o7, rfl, _, hc7⟩ := (HZ7.out.grown HGR.out (by simp)) (by have := HY.out; omega)
        have hcell7 := hc7 k _ hst
        have h5k : 0 < (mostR L D).length := by have := HZ.out; omega
        obtain ⟨b5, o5, rfl, _, _⟩ := HZ5.out h5k
        have HC5 := Lib.hid (show ∀ w', w5.grownBy w' none → w'.cell? ⟨b5, o5 + k, none⟩ = some (.int .i64 M) from fun w' hg => by
          obtain ⟨b5', o5', e, _, hc5⟩ := (HZ5.out.grown hg (by simp)) h5k
          cases e
          exact hc5 k _ hM)
        have hcell5 := HC5.out wo HGR.out
        have hsb : s + q ≤ b := by rw [← HB.out]; exact hsq
        have H8L := Lib.hid (show ((D.drop s).take q).length = q by rw [List.length_take, List.length_drop]; omega)
        have HLE := Lib.hid hle
        have HIN := Lib.hid hin
        clear hx hst hM hle hin hc3 hc7 hsq h5k
        by_cases hcs : c4 = s
        · have hq0 : q = 0 := by omega
          have hq1 : ((q : Int) == 0) = true := by simp [hq0]
          have hM1 : (M == 0) = true := by simp [hM0 hq0]
          clear hM0
          go_wp2_with fail
          go_quiet (fail)
          go_wp2_with fail
          go_loopw [13, 91] (fun bv i wr => ∃ (t : Nat) (bb : Bool), t ≤ q ∧ i = .int .i64 t ∧ bv = .bool bb ∧ Hid (∃ m, wr = w5.drewN m) ∧ Hid (bb = true ∨ (0 < q ∧ M ∉ ((D.drop s).take q).take t))) (fun _ i _ => q - (intOf i).toNat)
          case atStart => exact ⟨0, true, Nat.zero_le _, rfl, rfl, Lib.hid (by obtain ⟨m, rfl⟩ := hgr.out; exact ⟨m + _, World.drewN_drewN _ _ _⟩), Lib.hid (.inl rfl)⟩
          case round =>
            obtain ⟨t, bb, ht, rfl, rfl, hgr2, hbb2⟩ := hrel
            have HGR2 := Lib.hid (show w5.grownBy wr none by obtain ⟨m, rfl⟩ := hgr2.out; exact gr_drewN _ _ _)
            obtain ⟨wi, rfl⟩ : ∃ wi : World, wi = wr := ⟨_, rfl⟩
            by_cases hlt2 : t < q
            · exact absurd hlt2 (by omega)
            · obtain rfl : bb = true := by
                rcases hbb2.out with h | ⟨h0, h⟩
                · exact h
                · exact absurd (HIN.out h0) (by rw [show ((D.drop s).take q).take t = (D.drop s).take q from List.take_of_length_le (by have := H8L.out; omega)] at h; exact h)
              clear hbb2
              go_wp2_with fail
              go_roundw
              case rel => exact ⟨k + 1, by omega, by go_num, hgr2⟩
              case measure => simp [intOf]; omega
        obtain ⟨b4, rfl, HCD⟩ : ∃ b4, A4 = some ⟨b4, 0, none⟩ ∧ Hid (∀ w', w5.grownBy w' none → ∀ (i : Nat) (z : Int), D[i]? = some z → w'.cell? ⟨b4, i, none⟩ = some (.int .i64 z)) := by
          obtain ⟨A', c', e, h1, h2, h3, h4⟩ := HV.out.form
          cases e
          cases A4 with
          | none => have := (h3 rfl).1; omega
          | some a =>
            obtain ⟨b4, xs, m, rfl, hb, hcell⟩ := h4 a rfl
            exact ⟨b4, rfl, Lib.hid fun w' hg i z hi => hg.cell (hcell i z hi) (by simp)⟩
        by_cases hq0 : q = 0
        · have hq1 : ((q : Int) == 0) = true := by simp [hq0]
          have hM1 : (M == 0) = true := by simp [hM0 hq0]
          clear hM0
          go_wp2_with fail
          go_quiet (fail)
          go_wp2_with fail
          go_loopw [13, 91] (fun bv i wr => ∃ (t : Nat) (bb : Bool), t ≤ q ∧ i = .int .i64 t ∧ bv = .bool bb ∧ Hid (∃ m, wr = w5.drewN m) ∧ Hid (bb = true ∨ (0 < q ∧ M ∉ ((D.drop s).take q).take t))) (fun _ i _ => q - (intOf i).toNat)
          case atStart => exact ⟨0, true, Nat.zero_le _, rfl, rfl, Lib.hid (by obtain ⟨m, rfl⟩ := hgr.out; exact ⟨m + _, World.drewN_drewN _ _ _⟩), Lib.hid (.inl rfl)⟩
          case round =>
            obtain ⟨t, bb, ht, rfl, rfl, hgr2, hbb2⟩ := hrel
            have HGR2 := Lib.hid (show w5.grownBy wr none by obtain ⟨m, rfl⟩ := hgr2.out; exact gr_drewN _ _ _)
            obtain ⟨wi, rfl⟩ : ∃ wi : World, wi = wr := ⟨_, rfl⟩
            by_cases hlt2 : t < q
            · exact absurd hlt2 (by omega)
            · obtain rfl : bb = true := by
                rcases hbb2.out with h | ⟨h0, h⟩
                · exact h
                · exact absurd (HIN.out h0) (by rw [show ((D.drop s).take q).take t = (D.drop s).take q from List.take_of_length_le (by have := H8L.out; omega)] at h; exact h)
              clear hbb2
              go_wp2_with fail
              go_roundw
              case rel => exact ⟨k + 1, by omega, by go_num, hgr2⟩
              case measure => simp [intOf]; omega
        have hq1 : ((q : Int) == 0) = false := by rw [beq_eq_false_iff_ne]; omega
        clear hM0
        go_wp2_with fail
        go_quiet (fail)
        go_wp2_with fail
        go_loopw [13, 91] (fun bv i wr => ∃ (t : Nat) (bb : Bool), t ≤ q ∧ i = .int .i64 t ∧ bv = .bool bb ∧ Hid (∃ m, wr = w5.drewN m) ∧ Hid (bb = true ∨ (0 < q ∧ M ∉ ((D.drop s).take q).take t))) (fun _ i _ => q - (intOf i).toNat)
        case atStart => exact ⟨0, false, Nat.zero_le _, rfl, rfl, Lib.hid (by obtain ⟨m, rfl⟩ := hgr.out; exact ⟨m + _, World.drewN_drewN _ _ _⟩), Lib.hid (.inr ⟨by omega, by simp⟩)⟩
        case round =>
          obtain ⟨t, bb, ht, rfl, rfl, hgr2, hbb2⟩ := hrel
          have HGR2 := Lib.hid (show w5.grownBy wr none by obtain ⟨m, rfl⟩ := hgr2.out; exact gr_drewN _ _ _)
          obtain ⟨wi, rfl⟩ : ∃ wi : World, wi = wr := ⟨_, rfl⟩
          by_cases hlt2 : t < q
          · obtain ⟨v', hv'⟩ : ∃ v', ((D.drop s).take q)[t]? = some v' := ⟨_, List.getElem?_eq_getElem (by have := H8L.out; omega)⟩
            have hcell8 := HCD.out wi HGR2.out (s + t) v' (by rw [List.getElem?_take, if_pos hlt2, List.getElem?_drop] at hv'; exact hv')
            have hcell5 := HC5.out wi HGR2.out
            have hngt : ¬ M < v' := by have := HLE.out v' (List.mem_of_getElem? hv'); omega
            have hbn := hbb2.out
            have HTK := Lib.hid (show ((D.drop s).take q).take (t + 1) = ((D.drop s).take q).take t ++ [v'] by rw [List.take_add_one, hv']; rfl)
            cases bb with
            | true =>
              have HV' := Lib.hid hv'
              clear hbn hv' hbb2
              go_wp2_with fail
              go_roundw
              case rel => exact ⟨t + 1, true, by omega, by go_num, rfl, hgr2, Lib.hid (.inl rfl)⟩
              case measure => simp [intOf]; omega
            | false =>
              have HBN := Lib.hid (hbn.resolve_left (by simp))
              clear hbn hbb2
              by_cases hvm : v' = M
              · subst hvm
                have hvv : (v' == v') = true := by simp
                clear hv'
                go_wp2_with fail
                go_roundw
                case rel => exact ⟨t + 1, true, by omega, by go_num, rfl, hgr2, Lib.hid (.inl rfl)⟩
                case measure => simp [intOf]; omega
              · have hvv : (v' == M) = false := by simp [hvm]
                have HVM := Lib.hid hvm
                clear hv' hvm
                go_wp2_with fail
                go_roundw
                case rel => exact ⟨t + 1, false, by omega, by go_num, rfl, hgr2, Lib.hid (.inr ⟨HBN.out.1, by rw [HTK.out, List.mem_append]; intro h; rcases h with h | h; exact HBN.out.2 h; exact HVM.out (List.mem_singleton.1 h).symm⟩)⟩
                case measure => simp [intOf]; omega
          · obtain rfl : bb = true := by
              rcases hbb2.out with h | ⟨h0, h⟩
              · exact h
              · exact absurd (HIN.out h0) (by rw [show ((D.drop s).take q).take t = (D.drop s).take q from List.take_of_length_le (by have := H8L.out; omega)] at h; exact h)
            clear hbb2
            go_wp2_with fail
            go_roundw
            case rel => exact ⟨k + 1, by omega, by go_num, hgr2⟩
            case measure => simp [intOf]; omega
      · go_wp2_with fail
        go_ret
        exact ⟨rfl, HG.out.trans HGR.out⟩

set_option maxRecDepth 100000 in
theorem dmost_lifted (os : Os) (started : os.Started) (H : Type) (enc : TypeId × Value → H) :
    ReturnsInHanded {} Try.checked os 11 .any (Rows.fnMostSpec.pre6 enc Try.prog Try.f11 Rows.fnMostRow.domain false) (Rows.fnMostSpec.post enc Try.prog Try.f11 false true false false) := by
  refine returnsInHanded_of_change (C := Try.checked) knob_own started (by kernel_rfl) Try.func11
    (ChangeSpec.witness6 (enc := enc) (C := Try.checked) false ⟨#[], #[.slice none 0 0], []⟩ 8 (by kernel_rfl) (by kernel_rfl) (by kernel_rfl) (by kernel_rfl)) ?_
  intro W base args ds gs before hval0 hW hcnd _
  have hval : ∀ (j : Nat) t v, Try.f11.params[j]? = some t → args[j]? = some v → Value.okWide Try.prog W .any base t v := hval0
  have hW' := hW
  obtain ⟨p, q, hA0, hV, rfl, hfz, hnd⟩ := hW
  have hA : DataW.TrodAll enc Try.prog W 0 (fun _ => true) true Try.f11.params.toList args.toList ds p := hA0
  rw [Try.params11] at hA hval
  obtain ⟨v0, d0, rfl, rfl, h0⟩ := trodAll_one hA
  obtain ⟨rfl, rfl⟩ := trodVars_none hV
  obtain ⟨A, n, c, rfl, a1, a2, a3⟩ := open_byts (hval 0 33 v0 rfl rfl) h0
  clear hA0 hval0
  simp only [List.append_nil] at hW'
  have hlt : ∀ x ∈ p, x.block < W.heap.size := fun x hx => by simpa using hW'.lt x hx
  refine (law_dmost A n c W a3 a1 a2).mono fun e W' ⟨he, hg⟩ => ?_
  subst he
  refine ⟨_, rfl, _, _, _, [], p, [], hW', ?_, ?_, rfl, (below_of hg).frame _, fun h => by cases h⟩
  · exact trodAll_mk1 (shut_bool Try.underlying4 _)
  · exact trodAll_mk1 (Below.trod laid_out (by kernel_rfl) (of_decide_eq_true (by kernel_rfl)) h0 (below_of hg) hlt)

theorem dmost_holds : Rows.FnMostSaid :=
  OpenClaim.holds_of_wide 11 Try.f11 rfl rfl rfl rfl rfl rfl rfl ⟨rfl, rfl, rfl, rfl, rfl⟩ rfl rfl rfl rfl rfl fdmost_name Try.func11 fdmost_all fdmost_inst fdmost_wrap
    (fun os started H enc _ => dmost_lifted os started H enc)

#print axioms dmost_holds

end Go.Proofs.Ytpakihjkjdanlab
