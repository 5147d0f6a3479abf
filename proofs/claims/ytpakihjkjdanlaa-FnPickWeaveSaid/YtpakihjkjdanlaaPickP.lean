/- Plain facts on picked segments and woven numbers, and the contracts of PickSegments, WeaveData and GatherData for owned lists. -/
import Derived.Test.YtpakihjkjdanlaaPickI
import Derived.Test.YtpakihjkjdanlaaWevI
import Derived.Test.YtpakihjkjdanlaaPackI
namespace Go.Proofs.Ytpakihjkjdanlaa
open Go.RowKit

theorem cutI_lens : ∀ (LL : List (List Int)), cutI (LL.map fun M => (M.length : Int)) LL.flatten = LL
  | [] => rfl
  | M :: LL => by
    simp only [List.map_cons, List.flatten_cons, cutI, Int.toNat_natCast, List.take_left, List.drop_left, cutI_lens LL]
theorem pick_lens {L D F : List Int} (hok : okN 400 L = true) (hs : (D.length : Int) = sumI L) (hm : ∀ x ∈ F, 0 ≤ x ∧ x < (L.length : Int)) : pickI L F = (pickL (cutI L D) F).map fun M => (M.length : Int) := by
  rw [pickI, pickL, List.map_map]
  refine List.map_congr_left (fun x hx => ?_)
  obtain ⟨h0, h1⟩ := hm x hx
  obtain ⟨z, hz⟩ : ∃ z, L[x.toNat]? = some z := ⟨_, List.getElem?_eq_getElem (by omega)⟩
  obtain ⟨M, hM, hl⟩ := seg_at hok hs hz
  simp [hz, hM, hl]
theorem add_bound : ∀ (l : List Int) (r : Int), 0 ≤ r → r ≤ 10006 → 0 ≤ l.foldl addF r ∧ l.foldl addF r ≤ 10006
  | [], r, h0, h1 => ⟨h0, h1⟩
  | x :: l, r, _, _ => by
    rw [List.foldl_cons]
    exact add_bound l _ (by unfold addF; omega) (by unfold addF; omega)
theorem seg_mem {L D : List Int} {M : List Int} {x : Int} : M ∈ cutI L D → x ∈ M → x ∈ D := by
  induction L generalizing D with
  | nil => intro h; simp [cutI] at h
  | cons z L ih =>
    intro h hx
    rw [cutI] at h
    rcases List.mem_cons.1 h with rfl | h
    · exact List.mem_of_mem_take hx
    · exact List.mem_of_mem_drop (ih h hx)
/-- The sums of picked segments are the picked sums. -/
theorem pick_pure {L D F : List Int} (h : pickB L D F = true) : segsB L D = true ∧ gatherB (sumsR L D) F = true ∧ segsB (pickC L D F) (pickR L D F) = true ∧ sumsR (pickC L D F) (pickR L D F) = gatherR (sumsR L D) F := by
  obtain ⟨h1, h2, h3⟩ := pickB_get h
  obtain ⟨hl, hs, hD⟩ := segsB_get h1
  obtain ⟨hl4, hlok, _, _⟩ := lensB_get hl
  obtain ⟨hf4, hfok, hm⟩ := idxB_get h2
  have hS : sumsR L D = (cutI L D).map (fun l => l.foldl addF 0) := by rw [sumsR, if_pos h1]
  have hSl : (sumsR L D).length = L.length := by rw [hS, List.length_map, cutI_len]
  have hSd : dataB (sumsR L D) = true := by
    have : okN 10006 (sumsR L D) = true := by
      rw [hS]
      refine okN_allP (fun x hx => ?_)
      obtain ⟨M, _, rfl⟩ := List.mem_map.1 hx
      exact add_bound M 0 (by omega) (by omega)
    simp [dataB, hSl, hl4, this]
  have hg : gatherB (sumsR L D) F = true := by
    rw [gatherB, hSl]
    simp [hSd, h2]
  have hC : pickC L D F = pickI L F := by rw [pickC, if_pos h]
  have hR : pickR L D F = pickP L D F := by rw [pickR, if_pos h]
  have hsum := pick_sum hlok hs hm F.length (Nat.le_refl _)
  rw [List.take_length] at hsum
  have hok2 : okN 10006 (pickP L D F) = true := by
    refine okN_allP (fun x hx => ?_)
    rw [pickP] at hx
    obtain ⟨M, hM, hxM⟩ := List.mem_flatten.1 hx
    obtain ⟨i, hi, rfl⟩ := List.mem_map.1 hM
    obtain ⟨g0, g1⟩ := hm i hi
    have hlen : i.toNat < (cutI L D).length := by rw [cutI_len]; omega
    have hin : (cutI L D).getD i.toNat [] ∈ cutI L D := by
      rw [List.getD_eq_getElem?_getD, List.getElem?_eq_getElem hlen]
      exact List.getElem_mem hlen
    have hxD := seg_mem hin hxM
    obtain ⟨j, hj⟩ := List.getElem?_of_mem hxD
    have := okN_at hj hD
    exact ⟨this.1, this.2⟩
  have hsg : segsB (pickC L D F) (pickR L D F) = true := by
    rw [hC, hR]
    simp [segsB, h3, hsum, hok2]
  refine ⟨h1, hg, hsg, ?_⟩
  rw [sumsR, if_pos hsg, hC, hR, gatherR, if_pos hg, hS, pickP]
  rw [pick_lens hlok hs hm, cutI_lens, pickI, pickL, List.map_map]
  refine List.map_congr_left (fun x _ => ?_)
  simp only [Function.comp_apply, List.getD_eq_getElem?_getD, List.getElem?_map]
  cases (cutI L D)[x.toNat]? <;> rfl

theorem weaveI_take (F A B : List Int) (n j : Nat) (hj : j ≤ n) : (weaveI F A B n).take j = weaveI F A B j := by
  rw [weaveI, weaveI, ← List.map_take, List.take_range, Nat.min_eq_left hj]
theorem weaveI_at {F A B : List Int} {n j : Nat} (hj : j < n) : (weaveI F A B n)[j]? = some (atW F A B j) := by
  rw [weaveI, List.getElem?_map, List.getElem?_range hj]
  rfl
/-- What is woven is packed out again. -/
theorem weave_pack {F A B : List Int} (hf : cnW F F.length = A.length) : ∀ j, j ≤ F.length → packI ((weaveI F A B F.length).take j) (F.take j) = A.take (cnW F j)
  | 0, _ => by simp [packI, cnW]
  | j + 1, hj => by
    obtain ⟨f, hfj⟩ : ∃ f, F[j]? = some f := ⟨_, List.getElem?_eq_getElem (by omega)⟩
    rw [packI_take _ _ j _ f (weaveI_at (show j < F.length by omega)) hfj, weave_pack hf j (by omega), cnW_step hfj]
    by_cases h0 : f = 0
    · rw [if_pos h0, if_pos h0, List.append_nil, Nat.add_zero]
    · have hr := (cnW_rest F (j + 1)).1
      rw [cnW_step hfj, if_neg h0, hf] at hr
      obtain ⟨x, hx⟩ : ∃ x, A[cnW F j]? = some x := ⟨_, List.getElem?_eq_getElem (by omega)⟩
      have e : atW F A B j = x := by simp [atW, hfj, h0, hx]
      rw [if_neg h0, if_neg h0, at_take hx, e]
theorem getD_bound {A : List Int} (h : okN 10006 A = true) (i : Nat) : 0 ≤ A.getD i 0 ∧ A.getD i 0 ≤ 10006 := by
  rw [List.getD_eq_getElem?_getD]
  cases hi : A[i]? with
  | none => simp
  | some x =>
    have := okN_at hi h
    exact ⟨this.1, this.2⟩
theorem weave_pure {F A B : List Int} (h : weaveB F A B = true) : weaveR F A B = weaveI F A B F.length ∧ packB [((weaveR F A B).length : Int)] (weaveR F A B) F = true ∧ packR [((weaveR F A B).length : Int)] (weaveR F A B) F = A ∧ (weaveR F A B).length = F.length := by
  have hr : weaveR F A B = weaveI F A B F.length := by rw [weaveR, if_pos h]
  simp only [weaveB, fitB, Bool.and_eq_true, decide_eq_true_eq] at h
  obtain ⟨hF, hA, hB, hf, _⟩ := h
  obtain ⟨hF4, hFo⟩ := dataB_get hF
  have hAo := (dataB_get hA).2
  have hBo := (dataB_get hB).2
  have hlen : (weaveR F A B).length = F.length := by rw [hr, weaveI_len]
  have hok : okN 10006 (weaveR F A B) = true := by
    rw [hr]
    refine okN_allP (fun x hx => ?_)
    obtain ⟨j, _, rfl⟩ := List.mem_map.1 hx
    unfold atW
    split
    · exact getD_bound hBo _
    · exact getD_bound hAo _
  have hl1 : lensB [((weaveR F A B).length : Int)] = true := by
    refine lensB_mk (by simp) (okN_allP (fun z hz => ?_)) ?_
    · obtain rfl := List.mem_singleton.1 hz
      omega
    · simp only [sumI]
      omega
  have hs1 : segsB [((weaveR F A B).length : Int)] (weaveR F A B) = true := by simp [segsB, hl1, sumI, hok]
  have hs2 : segsB [((weaveR F A B).length : Int)] F = true := by
    rw [hlen] at hl1 ⊢
    simp [segsB, hl1, sumI, hFo]
  have hp : packB [((weaveR F A B).length : Int)] (weaveR F A B) F = true := by simp [packB, hs1, hs2]
  refine ⟨hr, hp, ?_, hlen⟩
  rw [packR, if_pos hp, hr]
  have e := weave_pack (B := B) hf F.length (Nat.le_refl _)
  rw [List.take_of_length_le (by rw [weaveI_len]; exact Nat.le_refl _), List.take_length, hf, List.take_length] at e
  exact e

theorem spick_own (v u t : Value) (L D F : List Int) (w : World) (h1 : OwnI w v L) (h2 : OwnI w u D) (h3 : OwnI w t F) (hn : L.length ≤ 1048576) (hm : D.length ≤ 1048576) (hf : F.length ≤ 1048576) :
    Calls Try.prog 32 #[v, u, t] w (PckPost (pickC L D F) (pickR L D F) (pickB L D F) w) := by
  by_cases hb : segsB L D = true ∧ idxB L.length F = true
  · exact spick_yes v u t L D F w h1 h2 h3 hb.1 hb.2
  · have hb' : segsB L D = false ∨ idxB L.length F = false := by
      cases h : segsB L D with
      | false => exact .inl rfl
      | true => exact .inr (by cases h' : idxB L.length F with
          | false => rfl
          | true => exact (hb ⟨h, h'⟩).elim)
    have hp : pickB L D F = false := by
      rcases hb' with h | h <;> simp [pickB, h]
    have e1 : pickC L D F = [] := by simp [pickC, hp]
    have e2 : pickR L D F = [] := by simp [pickR, hp]
    rw [e1, e2, hp]
    exact spick_no v u t L D F w h1 h2 h3 hn hm hf hb'
theorem pick_own (v u t : Value) (L D F : List Int) (w : World) (h1 : OwnI w v L) (h2 : OwnI w u D) (h3 : OwnI w t F) (hn : L.length ≤ 1048576) (hm : D.length ≤ 1048576) (hf : F.length ≤ 1048576) :
    Calls Try.prog 33 #[v, u, t] w (PckPost (pickC L D F) (pickR L D F) (pickB L D F) w) := by
  cases hb : pickB L D F with
  | false =>
    have e1 : pickC L D F = [] := by simp [pickC, hb]
    have e2 : pickR L D F = [] := by simp [pickR, hb]
    rw [e1, e2]
    exact pick_no v u t L D F w h1 h2 h3 hn hm hf hb
  | true =>
    have e1 : pickC L D F = pickI L F := by simp [pickC, hb]
    have e2 : pickR L D F = pickP L D F := by simp [pickR, hb]
    rw [e1, e2]
    exact pick_yes v u t L D F w h1 h2 h3 hb
theorem sweave_own (v u t : Value) (L D F : List Int) (w : World) (h1 : OwnI w v L) (h2 : OwnI w u D) (h3 : OwnI w t F) (hn : L.length ≤ 1048576) (hm : D.length ≤ 1048576) (hf : F.length ≤ 1048576) :
    Calls Try.prog 34 #[v, u, t] w (ListPostB (weaveR L D F) (weaveB L D F) w) := by
  obtain ⟨A, c, rfl, hA, _, _, _⟩ := h1.form
  obtain ⟨B, d, rfl, hB, _, _, _⟩ := h2.form
  obtain ⟨C, f, rfl, hC, _, _, _⟩ := h3.form
  exact sweave_any A B C c d f L D F w hA hB hC hn hm hf
theorem weave_own (v u t : Value) (L D F : List Int) (w : World) (h1 : OwnI w v L) (h2 : OwnI w u D) (h3 : OwnI w t F) (hn : L.length ≤ 1048576) (hm : D.length ≤ 1048576) (hf : F.length ≤ 1048576) :
    Calls Try.prog 35 #[v, u, t] w (ListPostB (weaveR L D F) (weaveB L D F) w) := by
  obtain ⟨A, c, rfl, hA, _, _, _⟩ := h1.form
  obtain ⟨B, d, rfl, hB, _, _, _⟩ := h2.form
  obtain ⟨C, f, rfl, hC, _, _, _⟩ := h3.form
  exact weave_impl A B C c d f L D F w hA hB hC hn hm hf
theorem gath_own (v u : Value) (L D : List Int) (w : World) (h1 : OwnI w v L) (h2 : OwnI w u D) (hn : L.length ≤ 1048576) (hm : D.length ≤ 1048576) :
    Calls Try.prog 18 #[v, u] w (ListPostB (gatherR L D) (gatherB L D) w) := by
  obtain ⟨A, c, rfl, hA, _, _, _⟩ := h1.form
  obtain ⟨B, d, rfl, hB, _, _, _⟩ := h2.form
  exact gatherdata_any A B c d L D w hA hB hn hm

end Go.Proofs.Ytpakihjkjdanlaa
