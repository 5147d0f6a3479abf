/- The law FnPack: whatever the input, true. -/
import Derived.Test.YtpakihjkjdanlabTotal
import Derived.Test.YtpakihjkjdanlabPackS
import Derived.Test.YtpakihjkjdanlabLawdmost
import Derived.Test.YtpakihjkjdanlabGdpackd
namespace Go.Proofs.Ytpakihjkjdanlab
open Go.ChangeShapes Go.WideShapes Go.ChangeAt Go.RowKit

def oneF (f : Int) : Int := if f = 0 then 0 else 1
def cntI (l : List Int) : Nat := (l.filter (· != 0)).length
theorem cutI_map (g : Int → Int) : ∀ (L D : List Int), cutI L (D.map g) = (cutI L D).map (List.map g)
  | [], _ => rfl
  | z :: L, D => by
    simp only [cutI, List.map_cons, List.map_take]
    rw [← List.map_drop, cutI_map g L]
theorem fold_count : ∀ (l : List Int) (a : Int), l.foldl countF a = a + (cntI l : Int)
  | [], a => by simp [cntI]
  | f :: l, a => by
    rw [List.foldl_cons, fold_count l]
    by_cases hf : f = 0
    · simp [countF, cntI, hf]
    · have : cntI (f :: l) = cntI l + 1 := by simp [cntI, hf]
      rw [this, countF, if_neg hf]
      omega
theorem fold_ones : ∀ (l : List Int) (a : Int), 0 ≤ a → a + l.length ≤ 10006 → (l.map oneF).foldl addF a = l.foldl countF a
  | [], a, _, _ => rfl
  | f :: l, a, h0, h1 => by
    simp only [List.length_cons] at h1
    have : addF a (oneF f) = countF a f := by
      unfold addF oneF countF
      split
      · rw [Int.add_zero]; omega
      · omega
    rw [List.map_cons, List.foldl_cons, List.foldl_cons, this]
    refine fold_ones l _ ?_ ?_
    · unfold countF; split <;> omega
    · unfold countF; split <;> omega
theorem cnt_flat : ∀ (S : List (List Int)), sumI (S.map fun l => (cntI l : Int)) = (cntI S.flatten : Int)
  | [] => rfl
  | l :: S => by
    rw [List.map_cons, sumI, cnt_flat S, List.flatten_cons]
    simp [cntI]
theorem cnt_le (l : List Int) : cntI l ≤ l.length := List.length_filter_le _ _
theorem packI_len : ∀ (D F : List Int), D.length = F.length → (packI D F).length = cntI F
  | [], [], _ => rfl
  | [], _ :: _, h => by simp at h
  | _ :: _, [], h => by simp at h
  | d :: D, f :: F, h => by
    have := packI_len D F (by simpa using h)
    by_cases hf : f = 0
    · simp only [packI, hf, if_pos, cntI] at this ⊢
      simpa using this
    · have h2 : cntI (f :: F) = cntI F + 1 := by simp [cntI, hf]
      rw [packI, if_neg hf, List.length_cons, this, h2]
theorem packI_at : ∀ (D F : List Int) (i : Nat) (d f : Int), D[i]? = some d → F[i]? = some f → f ≠ 0 → (packI D F)[(packI (D.take i) (F.take i)).length]? = some d
  | [], _, _, _, _, h, _, _ => by simp at h
  | _ :: _, [], _, _, _, _, h, _ => by simp at h
  | x :: D, y :: F, 0, d, f, h, h2, h3 => by
    simp only [List.getElem?_cons_zero, Option.some.injEq] at h h2
    subst h h2
    simp [packI, h3]
  | x :: D, y :: F, i + 1, d, f, h, h2, h3 => by
    have := packI_at D F i d f (by simpa using h) (by simpa using h2) h3
    simp only [List.take_succ_cons, packI]
    split
    · exact this
    · simpa using this
theorem packI_mem : ∀ (D F : List Int) (x : Int), x ∈ packI D F → x ∈ D
  | [], F, x, h => by cases F <;> simp [packI] at h
  | d :: D, [], x, h => by simp [packI] at h
  | d :: D, f :: F, x, h => by
    simp only [packI] at h
    split at h
    · exact List.mem_cons_of_mem _ (packI_mem D F x h)
    · rcases List.mem_cons.1 h with rfl | h
      · exact List.mem_cons_self
      · exact List.mem_cons_of_mem _ (packI_mem D F x h)

/-- What packs is counted: the sums of ones are the counts, and what is packed fits the counts. -/
theorem pack_pure {L D F : List Int} (hp : packB L D F = true) : segsB L (F.map oneF) = true ∧ sumsR L (F.map oneF) = packC L D F ∧ segsB (packC L D F) (packR L D F) = true := by
  obtain ⟨hd, hf⟩ := packB_get hp
  obtain ⟨hl, hfl, hfo⟩ := segsB_get hf
  obtain ⟨_, hdl, hdo⟩ := segsB_get hd
  obtain ⟨h4, hlo, hs4, hs0⟩ := lensB_get hl
  have h1 : segsB L (F.map oneF) = true := by
    have : okN 10006 (F.map oneF) = true := okN_all (fun x hx => by
      obtain ⟨f, _, rfl⟩ := List.mem_map.1 hx
      unfold oneF; split <;> omega)
    simp [segsB, hl, hfl, this]
  have hflat := cutI_flat L F hlo hfl
  have hseg : ∀ s ∈ cutI L F, s.length ≤ 400 := fun s hs => by
    obtain ⟨j, hj⟩ := List.getElem?_of_mem hs
    have := (cutI_in L F j s hfo hj).2
    omega
  have hcnt : packC L D F = (cutI L F).map fun l => (cntI l : Int) := by
    rw [packC, if_pos hp]
    exact List.map_congr_left (fun l _ => by rw [fold_count]; omega)
  refine ⟨h1, ?_, ?_⟩
  · rw [sumsR, if_pos h1, packC, if_pos hp, cutI_map, List.map_map]
    refine List.map_congr_left (fun l hm => ?_)
    have := hseg l hm
    exact fold_ones l 0 (Int.le_refl _) (by omega)
  · have hsum : sumI (packC L D F) = (cntI F : Int) := by rw [hcnt, cnt_flat, hflat]
    have hplen : (packR L D F).length = cntI F := by rw [packR, if_pos hp, packI_len D F (by omega)]
    have hcf := cnt_le F
    have ho : okN 400 (packC L D F) = true := by
      rw [hcnt]
      refine okN_all (fun x hx => ?_)
      obtain ⟨s, hs, rfl⟩ := List.mem_map.1 hx
      have := hseg s hs
      have := cnt_le s
      omega
    have ho2 : okN 10006 (packR L D F) = true := by
      rw [packR, if_pos hp]
      refine okN_all (fun x hx => ?_)
      obtain ⟨j, hj⟩ := List.getElem?_of_mem (packI_mem D F x hx)
      exact okN_at hj hdo
    have hlen : (packC L D F).length = L.length := by rw [hcnt, List.length_map, cutI_len]
    have hlb : lensB (packC L D F) = true := lensB_mk (by omega) ho (by omega)
    simp [segsB, hlb, hsum, hplen, ho2]

theorem packC_le {L D F : List Int} (h : L.length ≤ 1048576) : (packC L D F).length ≤ 1048576 := by
  unfold packC
  split
  · rw [List.length_map, cutI_len]; exact h
  · simp
theorem packR_le {L D F : List Int} (h : D.length ≤ 1048576) : (packR L D F).length ≤ 1048576 := by
  unfold packR
  split
  · exact Nat.le_trans (packI_le D F) h
  · simp

set_option maxRecDepth 100000 in
set_option maxHeartbeats 16000000 in
theorem law_dpackd (A : Option Addr) (n c : Nat) (w : World) (hB : Byts w A n) (hc : n ≤ c) (hn : n ≤ 9223372036854775807) :
    Calls Try.prog 13 #[.slice A n c] w fun e w' => e = .returned (.bool true) ∧ w.grownBy w' none := by
  obtain ⟨i0, hi0, hz0', hz1', hz2'⟩ := info_parts infoJ
  by_cases h1 : 1048576 < n
  · clear hB
    go_enter Try.func13, Try.ntmps13
    go_wp2_with fail
    go_ret
    exact ⟨rfl, gr_refl _ _⟩
  have HD := Lib.hid (drawpack_any A n c w hB hc hn)
  clear hB hc
  go_enter Try.func13, Try.ntmps13
  go_wp2_with fail
  refine HD.out.mono ?_
  rintro e w1 ⟨u, v, f, L, D, F, rfl, hu, hv, hf, hL, hD, hF, hg⟩
  have hL4 : L.length ≤ 1048576 := by omega
  have hD4 : D.length ≤ 1048576 := by omega
  have hF4 : F.length ≤ 1048576 := by omega
  obtain ⟨z, hz⟩ : ∃ z, (packC L D F).length = z := ⟨_, rfl⟩
  obtain ⟨y, hy⟩ : ∃ y, (packR L D F).length = y := ⟨_, rfl⟩
  obtain ⟨R, hR⟩ : ∃ R, packB L D F = R := ⟨_, rfl⟩
  have HM1 := Lib.hid (show ∀ w, OwnI w u L → OwnI w v D → OwnI w f F → Calls Try.prog 33 #[u, v, f] w (fun e w' => ∃ A c A2 c2, e = .returned (.tuple #[.slice A z c, .slice A2 y c2, .bool R]) ∧ w.grownBy w' none ∧ w'.ownsRow w.heap.size 3 1 (.slice A z c) z ((packC L D F).map (Value.int .i64)) ∧ w'.ownsRow w.heap.size 3 1 (.slice A2 y c2) y ((packR L D F).map (Value.int .i64))) from fun w h0 h1 h2 => by
    rw [← hz, ← hy, ← hR]; exact (pack_impl u v f L D F w h0 h1 h2 hL4 hD4 hF4).mono (fun e w' ⟨A, c, A2, c2, h1, h2, h3, h4, _⟩ => ⟨A, c, A2, c2, h1, h2, h3, h4⟩))
  have HM2 := Lib.hid (show ∀ w, OwnI w u L → OwnI w v D → OwnI w f F → Calls Try.prog 32 #[u, v, f] w (fun e w' => ∃ A c A2 c2, e = .returned (.tuple #[.slice A z c, .slice A2 y c2, .bool R]) ∧ w.grownBy w' none ∧ w'.ownsRow w.heap.size 3 1 (.slice A z c) z ((packC L D F).map (Value.int .i64)) ∧ w'.ownsRow w.heap.size 3 1 (.slice A2 y c2) y ((packR L D F).map (Value.int .i64))) from fun w h0 h1 h2 => by
    rw [← hz, ← hy, ← hR]; exact (spack_spec u v f L D F w h0 h1 h2 hL4 hD4 hF4).mono (fun e w' ⟨A, c, A2, c2, h1, h2, h3, h4, _⟩ => ⟨A, c, A2, c2, h1, h2, h3, h4⟩))
  have HS1 := Lib.hid (show ∀ A B c d w, Ints w A (packC L D F) → Ints w B (packC L D F) → Calls Try.prog 37 #[.slice A z c, .slice B z d] w (fun e w' => e = .returned (.bool true) ∧ ∃ m, w' = w.drewN m) from fun A B c d w h h2 => by
    rw [← hz]; exact same_any A B c d (packC L D F) w h h2 (packC_le hL4))
  have HS2 := Lib.hid (show ∀ A B c d w, Ints w A (packR L D F) → Ints w B (packR L D F) → Calls Try.prog 37 #[.slice A y c, .slice B y d] w (fun e w' => e = .returned (.bool true) ∧ ∃ m, w' = w.drewN m) from fun A B c d w h h2 => by
    rw [← hy]; exact same_any A B c d (packR L D F) w h h2 (packR_le hD4))
  have HZ := Lib.hid hz
  have HY := Lib.hid hy
  have HR := Lib.hid hR
  have HU := Lib.hid hu
  have HV := Lib.hid hv
  have HF := Lib.hid hf
  have HG := Lib.hid hg
  have HL4 := Lib.hid hL4
  have hRR : (R != R) = false := by simp
  have hRR' : (R == R) = true := by simp
  clear hu hv hf hg HD hz hy hR
  go_wp2_with fail
  refine (HM1.out _ HU.out HV.out HF.out).mono ?_
  rintro e w2 ⟨A5, c5, B5, d5, rfl, hg, ho, ho2⟩
  have HG := Lib.hid (HG.out.trans hg)
  have HU := Lib.hid (HU.out.grown0 hg)
  have HV := Lib.hid (HV.out.grown0 hg)
  have HF := Lib.hid (HF.out.grown0 hg)
  have HZ5 := Lib.hid (Ints.of_own (zs := packC L D F) (by rw [HZ.out]; exact ho))
  have HY5 := Lib.hid (Ints.of_own (zs := packR L D F) (by rw [HY.out]; exact ho2))
  clear hg ho ho2 HM1
  go_wp2_with fail
  refine (HM2.out _ HU.out HV.out HF.out).mono ?_
  rintro e w3 ⟨A6, c6, B6, d6, rfl, hg, ho, ho2⟩
  have HG := Lib.hid (HG.out.trans hg)
  have HU := Lib.hid (HU.out.grown0 hg)
  have HV := Lib.hid (HV.out.grown0 hg)
  have HF := Lib.hid (HF.out.grown0 hg)
  have HZ5 := Lib.hid (HZ5.out.grown hg (by simp))
  have HY5 := Lib.hid (HY5.out.grown hg (by simp))
  have HZ6 := Lib.hid (Ints.of_own (zs := packC L D F) (by rw [HZ.out]; exact ho))
  have HY6 := Lib.hid (Ints.of_own (zs := packR L D F) (by rw [HY.out]; exact ho2))
  clear hg ho ho2 HM2
  go_wp2_with fail
  refine (HS1.out _ _ c5 c6 _ HZ5.out HZ6.out).mono ?_
  rintro e w4 ⟨rfl, q4, rfl⟩
  have HG := Lib.hid (HG.out.trans (gr_drewN w3 q4 none))
  have HU := Lib.hid (HU.out.grown0 (gr_drewN w3 q4 none))
  have HV := Lib.hid (HV.out.grown0 (gr_drewN w3 q4 none))
  have HF := Lib.hid (HF.out.grown0 (gr_drewN w3 q4 none))
  have HZ5 := Lib.hid (HZ5.out.grown (gr_drewN w3 q4 none) (by simp))
  have HY5 := Lib.hid (HY5.out.grown (gr_drewN w3 q4 none) (by simp))
  have HZ6 := Lib.hid (HZ6.out.grown (gr_drewN w3 q4 none) (by simp))
  have HY6 := Lib.hid (HY6.out.grown (gr_drewN w3 q4 none) (by simp))
  generalize w3.drewN q4 = w4 at HG HU HV HF HZ5 HY5 HZ6 HY6 ⊢
  go_wp2_with fail
  refine (HS2.out _ _ d5 d6 _ HY5.out HY6.out).mono ?_
  rintro e w5 ⟨rfl, q5, rfl⟩
  have HG := Lib.hid (HG.out.trans (gr_drewN w4 q5 none))
  have HU := Lib.hid (HU.out.grown0 (gr_drewN w4 q5 none))
  have HV := Lib.hid (HV.out.grown0 (gr_drewN w4 q5 none))
  have HF := Lib.hid (HF.out.grown0 (gr_drewN w4 q5 none))
  have HZ5 := Lib.hid (HZ5.out.grown (gr_drewN w4 q5 none) (by simp))
  have HY5 := Lib.hid (HY5.out.grown (gr_drewN w4 q5 none) (by simp))
  have HZ6 := Lib.hid (HZ6.out.grown (gr_drewN w4 q5 none) (by simp))
  have HY6 := Lib.hid (HY6.out.grown (gr_drewN w4 q5 none) (by simp))
  generalize w4.drewN q5 = w5 at HG HU HV HF HZ5 HY5 HZ6 HY6 ⊢
  cases R with
  | false =>
    go_wp2_with fail
    refine (HS1.out _ _ c5 c6 _ HZ5.out HZ6.out).mono ?_
    rintro e w6 ⟨rfl, q6, rfl⟩
    have HG := Lib.hid (HG.out.trans (gr_drewN w5 q6 none))
    have HU := Lib.hid (HU.out.grown0 (gr_drewN w5 q6 none))
    have HV := Lib.hid (HV.out.grown0 (gr_drewN w5 q6 none))
    have HF := Lib.hid (HF.out.grown0 (gr_drewN w5 q6 none))
    have HZ5 := Lib.hid (HZ5.out.grown (gr_drewN w5 q6 none) (by simp))
    have HY5 := Lib.hid (HY5.out.grown (gr_drewN w5 q6 none) (by simp))
    have HZ6 := Lib.hid (HZ6.out.grown (gr_drewN w5 q6 none) (by simp))
    have HY6 := Lib.hid (HY6.out.grown (gr_drewN w5 q6 none) (by simp))
    generalize w5.drewN q6 = w6 at HG HU HV HF HZ5 HY5 HZ6 HY6 ⊢
    go_wp2_with fail
    refine (HS2.out _ _ d5 d6 _ HY5.out HY6.out).mono ?_
    rintro e w7 ⟨rfl, q7, rfl⟩
    have HG := Lib.hid (HG.out.trans (gr_drewN w6 q7 none))
    have HU := Lib.hid (HU.out.grown0 (gr_drewN w6 q7 none))
    have HV := Lib.hid (HV.out.grown0 (gr_drewN w6 q7 none))
    have HF := Lib.hid (HF.out.grown0 (gr_drewN w6 q7 none))
    have HZ5 := Lib.hid (HZ5.out.grown (gr_drewN w6 q7 none) (by simp))
    have HY5 := Lib.hid (HY5.out.grown (gr_drewN w6 q7 none) (by simp))
    have HZ6 := Lib.hid (HZ6.out.grown (gr_drewN w6 q7 none) (by simp))
    have HY6 := Lib.hid (HY6.out.grown (gr_drewN w6 q7 none) (by simp))
    generalize w6.drewN q7 = w7 at HG HU HV HF HZ5 HY5 HZ6 HY6 ⊢
    go_wp2_with fail
    go_ret
    exact ⟨rfl, HG.out⟩
  | true =>
    obtain ⟨hsd, hsf⟩ := packB_get HR.out
    have hl4 := lensB_get (segsB_get hsd).1
    have hdl := (segsB_get hsd).2.1
    have hfl := (segsB_get hsf).2.1
    obtain ⟨b, hbb⟩ : ∃ b, F.length = b := ⟨_, rfl⟩
    have hdb : D.length = b := by omega
    have hb4 : b ≤ 400 := by omega
    obtain ⟨A9, c9, rfl, hI9⟩ : ∃ A9 c9, f = .slice A9 b c9 ∧ Ints w5 A9 F := by
      obtain ⟨A9, c9, e, h, _⟩ := HF.out.form
      exact ⟨A9, c9, by rw [e, hbb], h⟩
    obtain ⟨A4, c4, rfl, hI4⟩ : ∃ A4 c4, v = .slice A4 b c4 ∧ Ints w5 A4 D := by
      obtain ⟨A4, c4, e, h, _⟩ := HV.out.form
      exact ⟨A4, c4, by rw [e, hdb], h⟩
    have HI9 := Lib.hid hI9
    have HI4 := Lib.hid hI4
    have HFB := Lib.hid hbb
    have HDB := Lib.hid hdb
    obtain ⟨hp1, hp2, hp3⟩ := pack_pure HR.out
    have HP1 := Lib.hid hp1
    have HP2 := Lib.hid hp2
    have HP3 := Lib.hid hp3
    have hzl : z ≤ 1048576 := by have := packC_le (D := D) (F := F) HL4.out; have := HZ.out; omega
    have hyb : y ≤ b := by have h1 := packI_le D F; have h2 := HY.out; rw [packR, if_pos HR.out] at h2; omega
    have HSV := Lib.hid (show ∀ w', w5.grownBy w' none → Calls Try.prog 18 #[.slice A5 z c5, .slice B5 y d5] w' (fun e w2 => e = .returned (.bool true) ∧ w' = w2) from fun w' hg => by
      have := segv_any A5 B5 c5 d5 (packC L D F) (packR L D F) w' (HZ5.out.grown hg (by simp)) (HY5.out.grown hg (by simp)) (by have := HZ.out; omega) (by have := HY.out; omega)
      rw [HZ.out, HY.out, hp3] at this
      exact this)
    have HGR := Lib.hid (World.grownBy_alloc w5 (.cells #[] 3) none)
    have HOW := Lib.hid (made_row w5 w5.heap.size (Nat.le_refl _))
    have HRR := Lib.hid (show packR L D F = packI D F by rw [packR, if_pos HR.out])
    clear hsd hsf hl4 hdl hfl hbb hdb hI9 hI4 hp1 hp2 hp3 hL hD hF hRR hRR' hL4 hD4 hF4 HV HF HZ6 HY6
    go_wp2_with fail
    go_loopw [12, 13, 78] (fun o kk i wr => ∃ (t k : Nat) (Ao : Option Addr) (co : Nat), t ≤ b ∧ i = .int .i64 t ∧ kk = .int .i64 k ∧ o = .slice Ao t co ∧ k ≤ y ∧ Hid (k = (packI (D.take t) (F.take t)).length) ∧ Hid (wr.ownsRow w5.heap.size 3 1 (.slice Ao t co) t (((F.take t).map oneF).map (Value.int .i64))) ∧ Hid (w5.grownBy wr none)) (fun _ _ i _ => b - (intOf i).toNat)
    case atStart => exact ⟨0, 0, _, 0, Nat.zero_le _, rfl, rfl, rfl, Nat.zero_le _, Lib.hid (by simp [packI]), HOW, HGR⟩
    case round =>
      clear HOW HGR
      obtain ⟨t, k, Ao, co, ht, rfl, rfl, rfl, hky, hkk, HOW, HGR⟩ := hrel
      obtain ⟨wi, rfl⟩ : ∃ wi : World, wi = wr := ⟨_, rfl⟩
      by_cases hlt : t < b
      · obtain ⟨fx, hfx⟩ : ∃ x, F[t]? = some x := ⟨_, List.getElem?_eq_getElem (by have := HFB.out; omega)⟩
        obtain ⟨dx, hdx⟩ : ∃ x, D[t]? = some x := ⟨_, List.getElem?_eq_getElem (by have := HDB.out; omega)⟩
        obtain ⟨b9, o9, rfl, _, hc9⟩ := (HI9.out.grown HGR.out (by simp)) (by have := HFB.out; omega)
        have hcell9 := hc9 t _ hfx
        have hpt := packI_take D F t dx fx hdx hfx
        have hft : (F.take (t + 1)).map oneF = (F.take t).map oneF ++ [oneF fx] := by rw [List.take_add_one, hfx]; simp
        obtain ⟨O, hO⟩ : ∃ O, (F.take t).map oneF = O := ⟨_, rfl⟩
        rw [hO] at HOW hft
        clear hO
        by_cases hf0 : fx = 0
        · have hff : (fx == 0) = true := by simp [hf0]
          rw [if_pos hf0, List.append_nil] at hpt
          have HK := Lib.hid (show k = (packI (D.take (t + 1)) (F.take (t + 1))).length by rw [hpt]; exact hkk.out)
          rw [oneF, if_pos hf0] at hft
          have HFT := Lib.hid hft
          clear hc9 hfx hdx hpt hft hkk
          have HNL := Lib.hid (cell_one_new wi (.int .i64 0) 3)
          have hown2 := HOW.out.alloc (.cells #[.int .i64 0] 3)
          have hszB : w5.heap.size ≤ wi.heap.size := HGR.out.size
          go_wp2_with (at_builtin; refine wpList_append_own_at _ rfl _ _ 22 rfl w5.heap.size 3 i0 (.int .i64 0) 1 8 Try.underlying22 hi0 hz0' hz1' hz2' rfl (by decide) _ _ _ rfl hown2 ⟨wi.heap.size, 0, none⟩ 1 1 [.int .i64 0] rfl rfl HNL.out ?c2 ?c3 ?c4 ?c5 ?_)
          case c2 => simp [Value.oneCell']
          case c3 => simp only [maxLen]; omega
          case c4 => omega
          case c5 => (try simp only [World.size_alloc]); omega
          intro v8 w30 hown8 hg8 _ _
          obtain ⟨hgr8, how8, g8, d8, rfl⟩ := row_one HGR.out (Nat.le_refl _) HOW.out hown8 hg8
          have HGR := Lib.hid hgr8
          have HOW := Lib.hid how8
          clear hown8 hg8 hgr8 how8 hown2 HNL hszB
          go_wp2_with fail
          go_roundw
          case rel => exact ⟨t + 1, k, _, d8, by omega, by go_num, rfl, rfl, hky, HK, Lib.hid (by rw [HFT.out]; exact HOW.out), HGR⟩
          case measure => simp [intOf]; omega
        · have hff : (fx == 0) = false := by simp [hf0]
          rw [if_neg hf0] at hpt
          have hat := packI_at D F t dx fx hdx hfx hf0
          rw [← hkk.out] at hat
          have hky2 : k < y := by
            have h1 := (List.getElem?_eq_some_iff.1 hat).1
            have h2 := HY.out
            rw [HRR.out] at h2
            omega
          have HK := Lib.hid (show k + 1 = (packI (D.take (t + 1)) (F.take (t + 1))).length by rw [hpt, List.length_append, ← hkk.out]; rfl)
          rw [oneF, if_neg hf0] at hft
          have HFT := Lib.hid hft
          have HAT := Lib.hid hat
          have HDX := Lib.hid hdx
          clear hc9 hfx hdx hpt hft hkk hat
          have HNL := Lib.hid (cell_one_new wi (.int .i64 1) 3)
          have hown2 := HOW.out.alloc (.cells #[.int .i64 1] 3)
          have hszB : w5.heap.size ≤ wi.heap.size := HGR.out.size
          go_wp2_with (at_builtin; refine wpList_append_own_at _ rfl _ _ 22 rfl w5.heap.size 3 i0 (.int .i64 0) 1 8 Try.underlying22 hi0 hz0' hz1' hz2' rfl (by decide) _ _ _ rfl hown2 ⟨wi.heap.size, 0, none⟩ 1 1 [.int .i64 1] rfl rfl HNL.out ?c2 ?c3 ?c4 ?c5 ?_)
          case c2 => simp [Value.oneCell']
          case c3 => simp only [maxLen]; omega
          case c4 => omega
          case c5 => (try simp only [World.size_alloc]); omega
          intro v8 w30 hown8 hg8 _ _
          obtain ⟨hgr8, how8, g8, d8, rfl⟩ := row_one HGR.out (Nat.le_refl _) HOW.out hown8 hg8
          have HGR := Lib.hid hgr8
          have HOW := Lib.hid how8
          clear hown8 hg8 hgr8 how8 hown2 HNL hszB
          obtain ⟨b4, o4, rfl, _, hc4⟩ := (HI4.out.grown HGR.out (by simp)) (by have := HDB.out; omega)
          have hcell4 := hc4 t _ HDX.out
          obtain ⟨b5, o5, rfl, _, hc5⟩ := (HY5.out.grown HGR.out (by simp)) (by have := HY.out; omega)
          have hcell5 := hc5 k _ (by rw [HRR.out]; exact HAT.out)
          have hdd : (dx != dx) = false := by simp
          have hge : ¬ (y : Int) ≤ (k : Int) := by omega
          have hge2 : ¬ y ≤ k := by omega
          clear hc4 hc5
          go_wp2_with fail
          go_quiet (fail)
          go_wp2_with fail
          go_roundw
          case rel => exact ⟨t + 1, k + 1, _, d8, by omega, by go_num, by go_num, rfl, by omega, HK, Lib.hid (by rw [HFT.out]; exact own_keep HOW.out (fun g hg => rfl)), Lib.hid (HGR.out.trans (gr_drewN _ _ _))⟩
          case measure => simp [intOf]; omega
      · obtain rfl : t = b := by omega
        obtain rfl : k = y := by
          have h1 := hkk.out
          have h2 := HY.out
          rw [HRR.out] at h2
          rw [show D.take t = D from List.take_of_length_le (by have := HDB.out; omega), show F.take t = F from List.take_of_length_le (by have := HFB.out; omega)] at h1
          omega
        have hown : wi.ownsRow w5.heap.size 3 1 (.slice Ao t co) t ((F.map oneF).map (Value.int .i64)) := by
          have := HOW.out
          rw [show F.take t = F from List.take_of_length_le (by have := HFB.out; omega)] at this
          exact this
        have hcall := sums_impl u (.slice Ao t co) L (F.map oneF) wi (HU.out.grown0 HGR.out) (OwnI.of hown (by rw [List.length_map]; exact HFB.out)) HL4.out (by rw [List.length_map]; have := HFB.out; omega)
        rw [HP1.out, HP2.out] at hcall
        have HCALL := Lib.hid (hcall.mono (R' := fun e w' => ∃ A c, e = .returned (.tuple #[.slice A z c, .bool true]) ∧ wi.grownBy w' none ∧ Ints w' A (packC L D F)) (fun e w' ⟨A, c, h1, h2, h3⟩ => ⟨A, c, by rw [h1, HZ.out], h2, Ints.of_own h3⟩))
        have hyy : ((k : Int) == (k : Int)) = true := by simp
        clear hcall hown hlt
        go_wp2_with fail
        refine HCALL.out.mono ?_
        rintro e w40 ⟨A12, c12, rfl, hg, hI⟩
        have HGR := Lib.hid (HGR.out.trans hg)
        have HI12 := Lib.hid hI
        clear hg hI HCALL
        go_wp2_with fail
        refine (HS1.out _ _ c12 c5 _ HI12.out (HZ5.out.grown HGR.out (by simp))).mono ?_
        rintro e w41 ⟨rfl, q41, rfl⟩
        have HGR := Lib.hid (HGR.out.trans (gr_drewN w40 q41 none))
        go_wp2_with fail
        refine (HSV.out _ HGR.out).mono ?_
        rintro e w42 ⟨rfl, rfl⟩
        go_wp2_with fail
        go_ret
        exact ⟨rfl, HG.out.trans HGR.out⟩

set_option maxRecDepth 100000 in
theorem dpackd_lifted (os : Os) (started : os.Started) (H : Type) (enc : TypeId × Value → H) :
    ReturnsInHanded {} Try.checked os 13 .any (Rows.fnPackSpec.pre6 enc Try.prog Try.f13 Rows.fnPackRow.domain false) (Rows.fnPackSpec.post enc Try.prog Try.f13 false true false false) := by
  refine returnsInHanded_of_change (C := Try.checked) knob_own started (by kernel_rfl) Try.func13
    (ChangeSpec.witness6 (enc := enc) (C := Try.checked) false ⟨#[], #[.slice none 0 0], []⟩ 8 (by kernel_rfl) (by kernel_rfl) (by kernel_rfl) (by kernel_rfl)) ?_
  intro W base args ds gs before hval0 hW hcnd _
  have hval : ∀ (j : Nat) t v, Try.f13.params[j]? = some t → args[j]? = some v → Value.okWide Try.prog W .any base t v := hval0
  have hW' := hW
  obtain ⟨p, q, hA0, hV, rfl, hfz, hnd⟩ := hW
  have hA : DataW.TrodAll enc Try.prog W 0 (fun _ => true) true Try.f13.params.toList args.toList ds p := hA0
  rw [Try.params13] at hA hval
  obtain ⟨v0, d0, rfl, rfl, h0⟩ := trodAll_one hA
  obtain ⟨rfl, rfl⟩ := trodVars_none hV
  obtain ⟨A, n, c, rfl, a1, a2, a3⟩ := open_byts (hval 0 33 v0 rfl rfl) h0
  clear hA0 hval0
  simp only [List.append_nil] at hW'
  have hlt : ∀ x ∈ p, x.block < W.heap.size := fun x hx => by simpa using hW'.lt x hx
  refine (law_dpackd A n c W a3 a1 a2).mono fun e W' ⟨he, hg⟩ => ?_
  subst he
  refine ⟨_, rfl, _, _, _, [], p, [], hW', ?_, ?_, rfl, (below_of hg).frame _, fun h => by cases h⟩
  · exact trodAll_mk1 (shut_bool Try.underlying4 _)
  · exact trodAll_mk1 (Below.trod laid_out (by kernel_rfl) (of_decide_eq_true (by kernel_rfl)) h0 (below_of hg) hlt)

theorem dpackd_holds : Rows.FnPackSaid :=
  OpenClaim.holds_of_wide 13 Try.f13 rfl rfl rfl rfl rfl rfl rfl ⟨rfl, rfl, rfl, rfl, rfl⟩ rfl rfl rfl rfl rfl fdpackd_name Try.func13 fdpackd_all fdpackd_inst fdpackd_wrap
    (fun os started H enc _ => dpackd_lifted os started H enc)

#print axioms dpackd_holds

end Go.Proofs.Ytpakihjkjdanlab
