/- The law FnMergeLengths: whatever the input, true. -/
import Derived.Test.YtpakihjkjdanlabTotal
import Derived.Test.YtpakihjkjdanlabBothsumseg
import Derived.Test.YtpakihjkjdanlabSegMrg
import Derived.Test.YtpakihjkjdanlabLawdpackd
import Derived.Test.YtpakihjkjdanlabGdmerged
namespace Go.Proofs.Ytpakihjkjdanlab
open Go.ChangeShapes Go.WideShapes Go.ChangeAt Go.RowKit

def sumF (l : List Int) : Int := l.foldl addF 0
theorem fold_add : ∀ (l : List Int) (a : Int), 0 ≤ a → a ≤ 10006 → l.foldl addF a = (a + sumI l) % 10007
  | [], a, h0, h1 => by simp only [List.foldl_nil, sumI]; omega
  | f :: l, a, h0, h1 => by
    have h := addF_in a f
    rw [List.foldl_cons, fold_add l _ h.1 h.2, sumI, addF]
    omega
theorem sumF_eq (l : List Int) : sumF l = sumI l % 10007 := by rw [sumF, fold_add l 0 (by omega) (by omega), Int.zero_add]
theorem sumF_flat : ∀ (S : List (List Int)), sumI (S.map sumF) % 10007 = sumI S.flatten % 10007
  | [] => rfl
  | l :: S => by
    have := sumF_flat S
    rw [List.map_cons, sumI, List.flatten_cons, sumI_append, sumF_eq]
    omega
theorem fold_plus : ∀ (l : List Int) (a : Int), l.foldl plusF a = a + sumI l
  | [], a => by simp [sumI]
  | f :: l, a => by
    rw [List.foldl_cons, fold_plus l, sumI, plusF]
    omega
theorem cutI_take : ∀ (D X : List Int) (k : Nat), (cutI D X).take k = cutI (D.take k) X
  | [], _, k => by simp [cutI]
  | _ :: _, _, 0 => by simp [cutI]
  | y :: D, X, k + 1 => by simp only [cutI, List.take_succ_cons, cutI_take D]
theorem cutI_drop : ∀ (D X : List Int) (k : Nat), okN 400 D = true → (cutI D X).drop k = cutI (D.drop k) (X.drop (sumI (D.take k)).toNat)
  | [], _, k, _ => by simp [cutI]
  | _ :: _, _, 0, _ => by simp [cutI, sumI]
  | y :: D, X, k + 1, h => by
    simp only [okN, Bool.and_eq_true, decide_eq_true_eq] at h
    have hb := sumI_take_bound h.2 k
    simp only [cutI, List.drop_succ_cons, List.take_succ_cons, sumI, cutI_drop D _ k h.2, List.drop_drop]
    rw [show y.toNat + (sumI (D.take k)).toNat = (y + sumI (D.take k)).toNat from by omega]
theorem cutI_flat2 : ∀ (D X : List Int), okN 400 D = true → (cutI D X).flatten = X.take (sumI D).toNat
  | [], X, _ => by simp [cutI, sumI]
  | y :: D, X, h => by
    simp only [okN, Bool.and_eq_true, decide_eq_true_eq] at h
    have hb := sumI_bound h.2
    rw [cutI, List.flatten_cons, cutI_flat2 D _ h.2, sumI, show (y + sumI D).toNat = y.toNat + (sumI D).toNat from by omega, List.take_add]
theorem merge_sums : ∀ (L D X : List Int), okN 400 D = true → (cutI L ((cutI D X).map sumF)).map sumF = (cutI ((cutI L D).map sumI) X).map sumF
  | [], _, _, _ => rfl
  | z :: L, D, X, h => by
    have hb := sumI_take_bound h z.toNat
    simp only [cutI, List.map_cons]
    rw [← List.map_take, ← List.map_drop, cutI_drop D X _ h, merge_sums L (D.drop z.toNat) _ (okN_drop h _), cutI_take, sumF_eq ((cutI (D.take z.toNat) X).map sumF), sumF_flat, cutI_flat2 _ _ (okN_take h _), ← sumF_eq]
theorem sumsR_eq {L D : List Int} (h : segsB L D = true) : sumsR L D = (cutI L D).map sumF := by rw [sumsR, if_pos h]; rfl
theorem sum_flat : ∀ (S : List (List Int)), sumI (S.map sumI) = sumI S.flatten
  | [] => rfl
  | l :: S => by rw [List.map_cons, sumI, sum_flat S, List.flatten_cons, sumI_append]
theorem mem_le_sum : ∀ (l : List Int), (∀ x ∈ l, 0 ≤ x) → 0 ≤ sumI l ∧ ∀ x ∈ l, x ≤ sumI l
  | [], _ => ⟨Int.le_refl _, by simp⟩
  | y :: l, h => by
    have h0 := h y List.mem_cons_self
    obtain ⟨h1, h2⟩ := mem_le_sum l (fun x hx => h x (List.mem_cons_of_mem _ hx))
    refine ⟨by rw [sumI]; omega, fun x hx => ?_⟩
    rw [sumI]
    rcases List.mem_cons.1 hx with rfl | hx
    · omega
    · have := h2 x hx; omega

/-- Sums of sums are those of the merged ones. -/
theorem merge_pure {L D X : List Int} (hm : mergeB L D = true) (hx : (X.length : Int) = sumI D) (ho : okN 10006 X = true) :
    segsB D X = true ∧ segsB L (sumsR D X) = true ∧ segsB (mergeR L D) X = true ∧ sumsR L (sumsR D X) = sumsR (mergeR L D) X := by
  have h0 := hm
  simp only [mergeB, Bool.and_eq_true, decide_eq_true_eq] at h0
  obtain ⟨hl, hd, hdl⟩ := h0
  obtain ⟨hl4, hlo, _, _⟩ := lensB_get hl
  obtain ⟨_, hdo, hd4, _⟩ := lensB_get hd
  have h1 : segsB D X = true := by simp [segsB, hd, hx, ho]
  have e1 : sumsR D X = (cutI D X).map sumF := by rw [sumsR, if_pos h1]; rfl
  have h2 : segsB L (sumsR D X) = true := by
    have hall : okN 10006 ((cutI D X).map sumF) = true := okN_all (fun x hx => by
      obtain ⟨l, _, rfl⟩ := List.mem_map.1 hx
      rw [sumF_eq]; omega)
    rw [e1]
    simp [segsB, hl, hall, cutI_len, hdl]
  have hmr : mergeR L D = (cutI L D).map sumI := by
    rw [mergeR, if_pos hm]
    exact List.map_congr_left (fun l _ => by rw [fold_plus, Int.zero_add])
  have hsum : sumI (mergeR L D) = sumI D := by rw [hmr, sum_flat, cutI_flat L D hlo hdl]
  have hnn : ∀ x ∈ mergeR L D, 0 ≤ x := fun x hx => by
    rw [hmr] at hx
    obtain ⟨s, hs, rfl⟩ := List.mem_map.1 hx
    obtain ⟨j, hj⟩ := List.getElem?_of_mem hs
    exact (sumI_bound (cutI_in4 L D j s hdo hj).1).1
  have hle := (mem_le_sum _ hnn).2
  have hok : okN 400 (mergeR L D) = true := okN_all (fun x hx => ⟨hnn x hx, by have := hle x hx; omega⟩)
  have hlen : (mergeR L D).length = L.length := by rw [hmr, List.length_map, cutI_len]
  have hlb : lensB (mergeR L D) = true := lensB_mk (by omega) hok (by omega)
  have h3 : segsB (mergeR L D) X = true := by simp [segsB, hlb, hx, hsum, ho]
  refine ⟨h1, h2, h3, ?_⟩
  rw [sumsR_eq h2, sumsR_eq h3, e1, hmr]
  exact merge_sums L D X hdo
theorem merge_tot {L D : List Int} (hm : mergeB L D = true) : okN 400 (mergeR L D) = true ∧ (mergeR L D).length = L.length ∧ sumI (mergeR L D) = sumI D ∧ lensB L = true ∧ lensB D = true ∧ (D.length : Int) = sumI L := by
  have h0 := hm
  simp only [mergeB, Bool.and_eq_true, decide_eq_true_eq] at h0
  obtain ⟨hl, hd, hdl⟩ := h0
  obtain ⟨hl4, hlo, _, _⟩ := lensB_get hl
  obtain ⟨_, hdo, hd4, _⟩ := lensB_get hd
  have hmr : mergeR L D = (cutI L D).map sumI := by
    rw [mergeR, if_pos hm]
    exact List.map_congr_left (fun l _ => by rw [fold_plus, Int.zero_add])
  have hsum : sumI (mergeR L D) = sumI D := by rw [hmr, sum_flat, cutI_flat L D hlo hdl]
  have hnn : ∀ x ∈ mergeR L D, 0 ≤ x := fun x hx => by
    rw [hmr] at hx
    obtain ⟨s, hs, rfl⟩ := List.mem_map.1 hx
    obtain ⟨j, hj⟩ := List.getElem?_of_mem hs
    exact (sumI_bound (cutI_in4 L D j s hdo hj).1).1
  have hle := (mem_le_sum _ hnn).2
  exact ⟨okN_all (fun x hx => ⟨hnn x hx, by have := hle x hx; omega⟩), by rw [hmr, List.length_map, cutI_len], hsum, hl, hd, hdl⟩
theorem mergeR_le {L D : List Int} (h : L.length ≤ 1048576) : (mergeR L D).length ≤ 1048576 := by
  unfold mergeR
  split
  · rw [List.length_map, cutI_len]; exact h
  · simp

/-- The law's data. -/
def dataI (m : Nat) (k : Nat) : Int := (((k * 37 + m) % 10007 : Nat) : Int)
def datI (m n : Nat) : List Int := (List.range n).map (dataI m)
theorem datI_len (m n : Nat) : (datI m n).length = n := by simp [datI]
theorem datI_at {m n k : Nat} (h : k < n) : (datI m n)[k]? = some (dataI m k) := by simp [datI, h]
theorem datI_ok (m n : Nat) : okN 10006 (datI m n) = true := okN_all (fun x hx => by
  obtain ⟨k, _, rfl⟩ := List.mem_map.1 hx
  unfold dataI
  omega)

set_option maxRecDepth 100000 in
set_option maxHeartbeats 16000000 in
theorem law_dmerged (A B : Option Addr) (n c m d : Nat) (w : World) (hB : Byts w A n) (hc : n ≤ c) (hn : n ≤ 9223372036854775807) (hm : m ≤ 9223372036854775807) :
    Calls Try.prog 14 #[.slice A n c, .slice B m d] w fun e w' => e = .returned (.bool true) ∧ w.grownBy w' none := by
  obtain ⟨i0, hi0, hz0', hz1', hz2'⟩ := info_parts infoJ
  by_cases h1 : 1048576 < n
  · clear hB
    go_enter Try.func14, Try.ntmps14
    go_wp2_with fail
    go_ret
    exact ⟨rfl, gr_refl _ _⟩
  by_cases h2 : 1048576 < m
  · clear hB
    go_enter Try.func14, Try.ntmps14
    go_wp2_with fail
    go_ret
    exact ⟨rfl, gr_refl _ _⟩
  have HD := Lib.hid (drawmerge_any A n c w hB hc hn)
  clear hB hc
  go_enter Try.func14, Try.ntmps14
  go_wp2_with fail
  refine HD.out.mono ?_
  rintro e w1 ⟨u, v, L, D, rfl, hu, hv, hL, hD, hg⟩
  have hL4 : L.length ≤ 1048576 := by omega
  have hD4 : D.length ≤ 1048576 := by omega
  obtain ⟨z, hz⟩ : ∃ z, (mergeR L D).length = z := ⟨_, rfl⟩
  obtain ⟨R, hR⟩ : ∃ R, mergeB L D = R := ⟨_, rfl⟩
  have HM1 := Lib.hid (show ∀ w, OwnI w u L → OwnI w v D → Calls Try.prog 35 #[u, v] w (fun e w' => ∃ A c, e = .returned (.tuple #[.slice A z c, .bool R]) ∧ w.grownBy w' none ∧ w'.ownsRow w.heap.size 3 1 (.slice A z c) z ((mergeR L D).map (Value.int .i64))) from fun w h0 h1 => by
    rw [← hz, ← hR]; exact merge_impl u v L D w h0 h1 hL4 hD4)
  have HM2 := Lib.hid (show ∀ w, OwnI w u L → OwnI w v D → Calls Try.prog 34 #[u, v] w (fun e w' => ∃ A c, e = .returned (.tuple #[.slice A z c, .bool R]) ∧ w.grownBy w' none ∧ w'.ownsRow w.heap.size 3 1 (.slice A z c) z ((mergeR L D).map (Value.int .i64))) from fun w h0 h1 => by
    rw [← hz, ← hR]; exact smerge_spec u v L D w h0 h1 hL4 hD4)
  have HS1 := Lib.hid (show ∀ A B c d w, Ints w A (mergeR L D) → Ints w B (mergeR L D) → Calls Try.prog 37 #[.slice A z c, .slice B z d] w (fun e w' => e = .returned (.bool true) ∧ ∃ m, w' = w.drewN m) from fun A B c d w h h2 => by
    rw [← hz]; exact same_any A B c d (mergeR L D) w h h2 (mergeR_le hL4))
  have HZ := Lib.hid hz
  have HR := Lib.hid hR
  have HU := Lib.hid hu
  have HV := Lib.hid hv
  have HG := Lib.hid hg
  have HL4 := Lib.hid hL4
  have HD4 := Lib.hid hD4
  have hRR : (R != R) = false := by simp
  have hRR' : (R == R) = true := by simp
  clear hu hv hg HD hz hR hL hD hL4 hD4
  go_wp2_with fail
  refine (HM1.out _ HU.out HV.out).mono ?_
  rintro e w2 ⟨A5, c5, rfl, hg, ho⟩
  have HG := Lib.hid (HG.out.trans hg)
  have HU := Lib.hid (HU.out.grown0 hg)
  have HV := Lib.hid (HV.out.grown0 hg)
  have HZ5 := Lib.hid (OwnI.of ho HZ.out)
  clear hg ho HM1
  go_wp2_with fail
  refine (HM2.out _ HU.out HV.out).mono ?_
  rintro e w3 ⟨A6, c6, rfl, hg, ho⟩
  have HG := Lib.hid (HG.out.trans hg)
  have HU := Lib.hid (HU.out.grown0 hg)
  have HV := Lib.hid (HV.out.grown0 hg)
  have HZ5 := Lib.hid (HZ5.out.grown0 hg)
  have HZ6 := Lib.hid (Ints.of_own (zs := mergeR L D) (by rw [HZ.out]; exact ho))
  clear hg ho HM2
  go_wp2_with fail
  refine (HS1.out _ _ c5 c6 _ (Ints.of_own (zs := mergeR L D) (by have := HZ5.out; rw [OwnI, HZ.out] at this; rw [HZ.out]; exact this)) HZ6.out).mono ?_
  rintro e w4 ⟨rfl, q4, rfl⟩
  have HG := Lib.hid (HG.out.trans (gr_drewN w3 q4 none))
  have HU := Lib.hid (HU.out.grown0 (gr_drewN w3 q4 none))
  have HV := Lib.hid (HV.out.grown0 (gr_drewN w3 q4 none))
  have HZ5 := Lib.hid (HZ5.out.grown0 (gr_drewN w3 q4 none))
  have HZ6 := Lib.hid (HZ6.out.grown (gr_drewN w3 q4 none) (by simp))
  generalize w3.drewN q4 = w4 at HG HU HV HZ5 HZ6 ⊢
  cases R with
  | false =>
    go_wp2_with fail
    refine (HS1.out _ _ c5 c6 _ (Ints.of_own (zs := mergeR L D) (by have := HZ5.out; rw [OwnI, HZ.out] at this; rw [HZ.out]; exact this)) HZ6.out).mono ?_
    rintro e w5 ⟨rfl, q5, rfl⟩
    have HG := Lib.hid (HG.out.trans (gr_drewN w4 q5 none))
    have HU := Lib.hid (HU.out.grown0 (gr_drewN w4 q5 none))
    have HV := Lib.hid (HV.out.grown0 (gr_drewN w4 q5 none))
    have HZ5 := Lib.hid (HZ5.out.grown0 (gr_drewN w4 q5 none))
    have HZ6 := Lib.hid (HZ6.out.grown (gr_drewN w4 q5 none) (by simp))
    generalize w4.drewN q5 = w5 at HG HU HV HZ5 HZ6 ⊢
    go_wp2_with fail
    go_ret
    exact ⟨rfl, HG.out⟩
  | true =>
    obtain ⟨hmo, hml, hms, hl, hd, hdl⟩ := merge_tot HR.out
    obtain ⟨hl4, hlo, hls, _⟩ := lensB_get hl
    obtain ⟨hd4, hdo, hds, hd0⟩ := lensB_get hd
    obtain ⟨T, hT⟩ : ∃ T : Nat, sumI D = (T : Int) := ⟨(sumI D).toNat, by omega⟩
    have hT4 : T ≤ 400 := by omega
    obtain ⟨q, hq⟩ : ∃ q, D.length = q := ⟨_, rfl⟩
    have HQ := Lib.hid hq
    obtain ⟨X, hX⟩ : ∃ X, datI m T = X := ⟨_, rfl⟩
    have hXL : X.length = T := by rw [← hX, datI_len]
    obtain ⟨p1, p2, p3, p4⟩ := merge_pure (X := X) HR.out (by rw [hXL, hT]) (by rw [← hX]; exact datI_ok m T)
    have HP := Lib.hid (And.intro p1 (And.intro p2 (And.intro p3 p4)))
    have HXA := Lib.hid (show ∀ k, k < T → X[k]? = some (dataI m k) from fun k hk => by rw [← hX]; exact datI_at hk)
    have HXL := Lib.hid hXL
    obtain ⟨A4, c4, rfl⟩ : ∃ A4 c4, v = .slice A4 q c4 := by
      obtain ⟨A4, c4, e, _⟩ := HV.out.form
      exact ⟨A4, c4, by rw [e, hq]⟩
    have HT1 := Lib.hid (show ∀ w', OwnI w' (.slice A4 q c4) D → Calls Try.prog 39 #[.slice A4 q c4] w' (fun e w2 => e = .returned (.int .i64 (T : Int)) ∧ w2 = w') from fun w' h => by
      obtain ⟨A', c', e, h2, _⟩ := h.form
      cases e
      rw [← hT]
      exact total_any A4 c4 D w' h2 hdo hd4)
    have HT2 := Lib.hid (show ∀ w', OwnI w' (.slice A5 z c5) (mergeR L D) → Calls Try.prog 39 #[.slice A5 z c5] w' (fun e w2 => e = .returned (.int .i64 (T : Int)) ∧ w2 = w') from fun w' h => by
      obtain ⟨A', c', e, h2, _⟩ := h.form
      cases e
      rw [← hT, ← hms]
      exact total_any A5 c5 (mergeR L D) w' h2 hmo (by omega))
    have hmk : ∀ u : World, (Instr.makeSlice 22 (.int .i64 (T : Int)) (.int .i64 (T : Int))).run Try.prog u =
        .ok (.slice (some ⟨u.heap.size, 0, none⟩) T T) (u.alloc (.cells (madeCells #[.int .i64 0] T) 3)) := fun u => by
      have h := run_make (P := Try.prog) u 22 3 i0 (.int .i64 0) Try.underlying22 hi0 hz0' .i64 .i64 (T : Int) (T : Int) (by omega) (Int.le_refl _) (by rw [hz2']; omega) (by omega)
      simpa [hz1', Value.cells] using h
    clear hmo hml hms hl hd hdl hl4 hlo hls hd4 hdo hds hd0 hT hq hX hXL p1 p2 p3 p4 hRR hRR' HZ6 HS1
    go_wp2_with fail
    refine (HT1.out _ HV.out).mono ?_
    rintro e w20 ⟨rfl, rfl⟩
    go_wp2_with fail
    clear hmk hi0 hz0' hz1' hz2'
    have HO := Lib.hid (World.ownsRow_lit (base := w20.heap.size) (e := 3) (size := 1) w20 (madeCells #[.int .i64 0] T) T (Nat.le_refl _) (by simp only [maxLen]; omega) (by simp [madeCells]))
    go_loopw [70] (fun i wr => ∃ (k : Nat) (ys : List Value), k ≤ T ∧ i = .int .i64 k ∧ Hid (wr.ownsRow w20.heap.size 3 1 (.slice (some ⟨w20.heap.size, 0, none⟩) T T) T ys) ∧ Hid (∀ i, i < k → ys[i]? = (X.map (Value.int .i64))[i]?) ∧ Hid (w20.grownBy wr none)) (fun i _ => T - (intOf i).toNat)
    case atStart => exact ⟨0, _, Nat.zero_le _, rfl, HO, Lib.hid (fun i hi => by omega), Lib.hid (World.grownBy_alloc _ _ _)⟩
    case round =>
      obtain ⟨k, ys, hk, rfl, ho, hys, hgr⟩ := hrel
      obtain ⟨wo, rfl⟩ : ∃ wo : World, wo = wr := ⟨_, rfl⟩
      by_cases hlt : k < T
      · obtain ⟨r, hr⟩ : ∃ r, (k * 37 + m) % 10007 = r := ⟨_, rfl⟩
        have HXK := Lib.hid (show X[k]? = some (r : Int) by rw [HXA.out k hlt, dataI, hr])
        have e1 : IntKind.i64.wrap ((k : Int) * 37) = (k : Int) * 37 := IntWalk.i64_in _ (by omega)
        have e2 : IntKind.i64.wrap ((k : Int) * 37 + (m : Int)) = (k : Int) * 37 + (m : Int) := IntWalk.i64_in _ (by omega)
        have e3 : ((k : Int) * 37 + (m : Int)).tmod 10007 = (r : Int) := by rw [← hr]; rfl
        have e4 : ((k : Int) * 37 + (m : Int)) % 10007 = (r : Int) := by omega
        have hyl : ys.length = T := by have := ho.out.1; omega
        have hcell2 : wo.cell? ⟨w20.heap.size, k, none⟩ = some ys[k] := (ho.out.cellAt k (by omega)).trans (List.getElem?_eq_getElem (by omega))
        have hfr := ho.out.frozenAt k
        generalize ys[k] = y0 at hcell2
        have HYL := Lib.hid hyl
        have HST := Lib.hid (ho.out.stored k (.int .i64 (r : Int)))
        clear hyl hr
        go_wp2_with fail
        go_roundw
        case rel =>
          refine ⟨k + 1, ys.set k (.int .i64 (r : Int)), by omega, by go_num, Lib.hid HST.out.1, Lib.hid (fun i hi => ?_), Lib.hid (gr_own hgr.out HST.out.2 (fun k hk => by cases hk; exact Nat.le_refl _))⟩
          rw [List.getElem?_set]
          by_cases e : k = i
          · subst e
            rw [if_pos rfl, if_pos (by have := HYL.out; omega), List.getElem?_map, HXK.out]
            rfl
          · rw [if_neg e]
            exact hys.out i (by omega)
        case measure => simp [intOf]; omega
      · have hkT : k = T := by omega
        have hown : OwnI wo (.slice (some ⟨w20.heap.size, 0, none⟩) T T) X := by
          have e : ys = X.map (Value.int .i64) := by
            refine List.ext_getElem? fun i => ?_
            have hyl : ys.length = T := by have := ho.out.1; omega
            have := HXL.out
            rcases Nat.lt_or_ge i T with h | h
            · exact hys.out i (by omega)
            · rw [List.getElem?_eq_none (by omega), List.getElem?_eq_none (by rw [List.length_map]; omega)]
          have h3 := ho.out
          rw [e] at h3
          exact OwnI.of h3 HXL.out
        have HXO := Lib.hid hown
        have HG := Lib.hid (HG.out.trans hgr.out)
        have HU := Lib.hid (HU.out.grown0 hgr.out)
        have HV := Lib.hid (HV.out.grown0 hgr.out)
        have HZ5 := Lib.hid (HZ5.out.grown0 hgr.out)
        obtain ⟨o1, ho1⟩ : ∃ o, (sumsR D X).length = o := ⟨_, rfl⟩
        obtain ⟨o2, ho2⟩ : ∃ o, (sumsR L (sumsR D X)).length = o := ⟨_, rfl⟩
        have HO1 := Lib.hid ho1
        have HO2 := Lib.hid ho2
        have hXm : X.length ≤ 1048576 := by have := HXL.out; omega
        have ho1l : (sumsR D X).length ≤ 1048576 := by
          have := (segsB_get HP.out.2.1).2.1
          have h2 := lensB_get (segsB_get HP.out.2.1).1
          omega
        have ho2l : (sumsR L (sumsR D X)).length ≤ 1048576 := by
          rw [sumsR, if_pos HP.out.2.1, List.length_map, cutI_len]
          exact HL4.out
        have HC1 := Lib.hid (show ∀ w p, OwnI w (.slice A4 q c4) D → OwnI w p X → Calls Try.prog 25 #[.slice A4 q c4, p] w (fun e w' => ∃ A c, e = .returned (.tuple #[.slice A o1 c, .bool true]) ∧ w.grownBy w' none ∧ w'.ownsRow w.heap.size 3 1 (.slice A o1 c) o1 ((sumsR D X).map (Value.int .i64))) from fun w p h0 h1 => by
          have := sums_impl _ p D X w h0 h1 HD4.out hXm
          rw [HP.out.1] at this
          rw [← ho1]; exact this)
        have HC2 := Lib.hid (show ∀ w p, OwnI w u L → OwnI w p (sumsR D X) → Calls Try.prog 25 #[u, p] w (fun e w' => ∃ A c, e = .returned (.tuple #[.slice A o2 c, .bool true]) ∧ w.grownBy w' none ∧ w'.ownsRow w.heap.size 3 1 (.slice A o2 c) o2 ((sumsR L (sumsR D X)).map (Value.int .i64))) from fun w p h0 h1 => by
          have := sums_impl _ p L (sumsR D X) w h0 h1 HL4.out ho1l
          rw [HP.out.2.1] at this
          rw [← ho2]; exact this)
        have HC3 := Lib.hid (show ∀ w p, OwnI w (.slice A5 z c5) (mergeR L D) → OwnI w p X → Calls Try.prog 25 #[.slice A5 z c5, p] w (fun e w' => ∃ A c, e = .returned (.tuple #[.slice A o2 c, .bool true]) ∧ w.grownBy w' none ∧ w'.ownsRow w.heap.size 3 1 (.slice A o2 c) o2 ((sumsR L (sumsR D X)).map (Value.int .i64))) from fun w p h0 h1 => by
          have := sums_impl _ p (mergeR L D) X w h0 h1 (mergeR_le HL4.out) hXm
          rw [HP.out.2.2.1, ← HP.out.2.2.2] at this
          rw [← ho2]; exact this)
        have HS4 := Lib.hid (show ∀ A B c d w, Ints w A (sumsR L (sumsR D X)) → Ints w B (sumsR L (sumsR D X)) → Calls Try.prog 37 #[.slice A o2 c, .slice B o2 d] w (fun e w' => e = .returned (.bool true) ∧ ∃ m, w' = w.drewN m) from fun A B c d w h h2 => by
          rw [← ho2]; exact same_any A B c d _ w h h2 ho2l)
        have hTT : ((T : Int) == (T : Int)) = true := by simp
        clear hown ho hys hgr ho1 ho2 hXm ho1l ho2l HO
        go_wp2_with fail
        refine (HC1.out _ _ HV.out HXO.out).mono ?_
        rintro e w31 ⟨A7, c7, rfl, hg, ho⟩
        have HG := Lib.hid (HG.out.trans hg)
        have HU := Lib.hid (HU.out.grown0 hg)
        have HV := Lib.hid (HV.out.grown0 hg)
        have HZ5 := Lib.hid (HZ5.out.grown0 hg)
        have HXO := Lib.hid (HXO.out.grown0 hg)
        have HW7 := Lib.hid (OwnI.of ho HO1.out)
        clear hg ho HC1
        go_wp2_with fail
        refine (HC2.out _ _ HU.out HW7.out).mono ?_
        rintro e w32 ⟨A8, c8, rfl, hg, ho⟩
        have HG := Lib.hid (HG.out.trans hg)
        have HU := Lib.hid (HU.out.grown0 hg)
        have HV := Lib.hid (HV.out.grown0 hg)
        have HZ5 := Lib.hid (HZ5.out.grown0 hg)
        have HXO := Lib.hid (HXO.out.grown0 hg)
        have HW7 := Lib.hid (HW7.out.grown0 hg)
        have HW8 := Lib.hid (Ints.of_own (zs := sumsR L (sumsR D X)) (by rw [HO2.out]; exact ho))
        clear hg ho HC2
        go_wp2_with fail
        refine (HC3.out _ _ HZ5.out HXO.out).mono ?_
        rintro e w33 ⟨A9, c9, rfl, hg, ho⟩
        have HG := Lib.hid (HG.out.trans hg)
        have HU := Lib.hid (HU.out.grown0 hg)
        have HV := Lib.hid (HV.out.grown0 hg)
        have HZ5 := Lib.hid (HZ5.out.grown0 hg)
        have HXO := Lib.hid (HXO.out.grown0 hg)
        have HW7 := Lib.hid (HW7.out.grown0 hg)
        have HW8 := Lib.hid (HW8.out.grown hg (by simp))
        have HW9 := Lib.hid (Ints.of_own (zs := sumsR L (sumsR D X)) (by rw [HO2.out]; exact ho))
        clear hg ho HC3
        go_wp2_with fail
        refine (HS4.out _ _ c8 c9 _ HW8.out HW9.out).mono ?_
        rintro e w34 ⟨rfl, q34, rfl⟩
        have HG := Lib.hid (HG.out.trans (gr_drewN w33 q34 none))
        have HU := Lib.hid (HU.out.grown0 (gr_drewN w33 q34 none))
        have HV := Lib.hid (HV.out.grown0 (gr_drewN w33 q34 none))
        have HZ5 := Lib.hid (HZ5.out.grown0 (gr_drewN w33 q34 none))
        have HXO := Lib.hid (HXO.out.grown0 (gr_drewN w33 q34 none))
        have HW7 := Lib.hid (HW7.out.grown0 (gr_drewN w33 q34 none))
        have HW8 := Lib.hid (HW8.out.grown (gr_drewN w33 q34 none) (by simp))
        have HW9 := Lib.hid (HW9.out.grown (gr_drewN w33 q34 none) (by simp))
        generalize w33.drewN q34 = w34 at HG HU HV HZ5 HXO HW7 HW8 HW9 ⊢
        go_wp2_with fail
        refine (HT2.out _ HZ5.out).mono ?_
        rintro e w50 ⟨rfl, rfl⟩
        go_wp2_with fail
        refine (HT1.out _ HV.out).mono ?_
        rintro e w51 ⟨rfl, rfl⟩
        go_wp2_with fail
        go_ret
        exact ⟨rfl, HG.out⟩

set_option maxRecDepth 100000 in
theorem dmerged_lifted (os : Os) (started : os.Started) (H : Type) (enc : TypeId × Value → H) :
    ReturnsInHanded {} Try.checked os 14 .any (Rows.fnMergeLengthsSpec.pre6 enc Try.prog Try.f14 Rows.fnMergeLengthsRow.domain false) (Rows.fnMergeLengthsSpec.post enc Try.prog Try.f14 false true false false) := by
  refine returnsInHanded_of_change (C := Try.checked) knob_own started (by kernel_rfl) Try.func14
    (ChangeSpec.witness6 (enc := enc) (C := Try.checked) false ⟨#[], #[.slice none 0 0, .slice none 0 0], []⟩ 8 (by kernel_rfl) (by kernel_rfl) (by kernel_rfl) (by kernel_rfl)) ?_
  intro W base args ds gs before hval0 hW hcnd _
  have hval : ∀ (j : Nat) t v, Try.f14.params[j]? = some t → args[j]? = some v → Value.okWide Try.prog W .any base t v := hval0
  have hW' := hW
  obtain ⟨p, q, hA0, hV, rfl, hfz, hnd⟩ := hW
  have hA : DataW.TrodAll enc Try.prog W 0 (fun _ => true) true Try.f14.params.toList args.toList ds p := hA0
  rw [Try.params14] at hA hval
  obtain ⟨v0, v1, d0, d1, p0, p1, rfl, rfl, rfl, h0, h1⟩ := trodAll_two hA
  obtain ⟨rfl, rfl⟩ := trodVars_none hV
  obtain ⟨A, n, c, rfl, a1, a2, a3⟩ := open_byts (hval 0 33 v0 rfl rfl) h0
  obtain ⟨B, m, d, rfl, b1, b2, b3⟩ := open_byts (hval 1 33 v1 rfl rfl) h1
  clear hA0 hval0
  simp only [List.append_nil] at hW'
  have hlt : ∀ x ∈ p0 ++ p1, x.block < W.heap.size := fun x hx => by simpa using hW'.lt x hx
  refine (law_dmerged A B n c m d W a3 a1 a2 b2).mono fun e W' ⟨he, hg⟩ => ?_
  subst he
  refine ⟨_, rfl, _, _, _, [], p0 ++ p1, [], hW', ?_, ?_, rfl, (below_of hg).frame _, fun h => by cases h⟩
  · exact trodAll_mk1 (shut_bool Try.underlying4 _)
  · exact trodAll_mk2 (Below.trod laid_out (by kernel_rfl) (of_decide_eq_true (by kernel_rfl)) h0 (below_of hg) (fun x hx => hlt x (List.mem_append_left _ hx)))
      (Below.trod laid_out (by kernel_rfl) (of_decide_eq_true (by kernel_rfl)) h1 (below_of hg) (fun x hx => hlt x (List.mem_append_right _ hx)))

theorem dmerged_holds : Rows.FnMergeLengthsSaid :=
  OpenClaim.holds_of_wide 14 Try.f14 rfl rfl rfl rfl rfl rfl rfl ⟨rfl, rfl, rfl, rfl, rfl⟩ rfl rfl rfl rfl rfl fdmerged_name Try.func14 fdmerged_all fdmerged_inst fdmerged_wrap
    (fun os started H enc _ => dmerged_lifted os started H enc)

#print axioms dmerged_holds

end Go.Proofs.Ytpakihjkjdanlab
