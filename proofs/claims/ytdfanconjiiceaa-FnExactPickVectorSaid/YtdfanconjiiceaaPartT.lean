/- Plain facts: what takePart cuts off is the first array; the levels and the numbers of folded arrays are those of the layout. -/
import Derived.Test.YtdfanconjiiceaaPartF
import Derived.Test.YtdfanconjiiceaaFold
namespace Go.Proofs.Ytdfanconjiiceaa

theorem flat_len {d : Nat} : ∀ (ts : List (T (d + 1))), ((ts.flatMap prt).length : Int) = sumI (ts.map fun t => ((prt t).length : Int))
  | [] => rfl
  | t :: ts => by
    have := flat_len ts
    simp only [List.flatMap_cons, List.length_append, List.map_cons, sumI]
    omega
theorem flat_take {d : Nat} (ts : List (T (d + 1))) (c : Nat) : (ts.flatMap prt).take ((ts.take c).flatMap prt).length = (ts.take c).flatMap prt ∧ (ts.flatMap prt).drop ((ts.take c).flatMap prt).length = (ts.drop c).flatMap prt := by
  have e : ts.flatMap prt = (ts.take c).flatMap prt ++ (ts.drop c).flatMap prt := by rw [← List.flatMap_append, List.take_append_drop]
  rw [e]
  exact ⟨List.take_left' rfl, List.drop_left' rfl⟩
theorem cut_arr : ∀ (d c : Nat) (ts : List (T d)), c ≤ ts.length → cutP c (lv d ts) = lv d (ts.take c) ∧ cutR c (lv d ts) = lv d (ts.drop c) ∧ cntE c (lv d ts) = (dat d (ts.take c)).length
  | 0, c, ts, h => by
    refine ⟨rfl, rfl, ?_⟩
    have h2 : c ≤ (show List Nat from ts).length := h
    show c = ((List.take c (show List Nat from ts)).map fun n : Nat => (n : Int)).length
    rw [List.length_map, List.length_take]
    omega
  | d + 1, c, ts, h => by
    have hs : (sumI ((ts.map fun t => ((prt t).length : Int)).take c)).toNat = ((ts.take c).flatMap prt).length := by
      rw [← List.map_take, ← flat_len]
      omega
    have hle : ((ts.take c).flatMap prt).length ≤ (ts.flatMap prt).length := by
      have e : ts.flatMap prt = (ts.take c).flatMap prt ++ (ts.drop c).flatMap prt := by rw [← List.flatMap_append, List.take_append_drop]
      rw [e, List.length_append]
      omega
    obtain ⟨i1, i2, i3⟩ := cut_arr d _ (ts.flatMap prt) hle
    obtain ⟨f1, f2⟩ := flat_take ts c
    rw [f1] at i1 i3
    rw [f2] at i2
    refine ⟨?_, ?_, ?_⟩
    · simp only [lv, cutP, hs, i1, List.map_take]
    · simp only [lv, cutR, hs, i2, List.map_drop]
    · simp only [lv, cntE, hs, i3, dat]
theorem cut_dat (d c : Nat) (ts : List (T d)) : (dat d ts).take (dat d (ts.take c)).length = dat d (ts.take c) ∧ (dat d ts).drop (dat d (ts.take c)).length = dat d (ts.drop c) := by
  have e : dat d ts = dat d (ts.take c) ++ dat d (ts.drop c) := by rw [← dat_append, List.take_append_drop]
  rw [e]
  exact ⟨List.take_left' rfl, List.drop_left' rfl⟩

/-- The arrays' levels and numbers, cut off one by one. -/
def innI : Nat → List (List Int) → List Int → List (List (List Int) × List Int)
  | 0, _, _ => []
  | n + 1, LL, D => (cutP 1 LL, D.take (cntE 1 LL)) :: innI n (cutR 1 LL) (D.drop (cntE 1 LL))
theorem innI_arr {d : Nat} : ∀ (ts : List (T d)), innI ts.length (lv d ts) (dat d ts) = ts.map fun t => (lv d [t], dat d [t])
  | [] => rfl
  | t :: ts => by
    obtain ⟨h1, h2, h3⟩ := cut_arr d 1 (t :: ts) (by simp)
    obtain ⟨h4, h5⟩ := cut_dat d 1 (t :: ts)
    rw [List.length_cons, innI, h1, h2, h3, h4, h5, List.map_cons]
    have := innI_arr ts
    simpa using this
theorem innI_len : ∀ (n : Nat) (LL : List (List Int)) (D : List Int), (innI n LL D).length = n
  | 0, _, _ => rfl
  | n + 1, LL, D => by simp [innI, innI_len n]

theorem fold_lv : ∀ (d c : Nat) (LL : List (List Int)) (D : List Int), LL.length = d → Fits c LL D → lv d (foldN d LL D) = LL ∧ dat d (foldN d LL D) = D
  | 0, c, LL, D, h, hf => by
    obtain rfl := List.eq_nil_of_length_eq_zero h
    refine ⟨rfl, ?_⟩
    show ((show List Nat from (D.map Int.toNat : List Nat)).map fun n : Nat => (n : Int)) = D
    rw [List.map_map]
    refine (List.map_congr_left (fun z hz => ?_)).trans (List.map_id _)
    obtain ⟨j, hj⟩ := List.getElem?_of_mem hz
    have := okN_at hj hf.2
    show ((z.toNat : Nat) : Int) = z
    omega
  | d + 1, c, [], D, h, _ => by simp at h
  | d + 1, c, L :: LL, D, h, hf => by
    have hl := foldN_len d _ LL D (by simpa using h) hf.2.2
    obtain ⟨h1, h2⟩ := fold_lv d _ LL D (by simpa using h) hf.2.2
    have hfl : (foldN (d + 1) (L :: LL) D).flatMap prt = foldN d LL D := by
      have : (foldN (d + 1) (L :: LL) D).flatMap prt = (cutBy L (foldN d LL D)).flatten := by
        show (cutBy L (foldN d LL D)).flatMap (fun t => t) = _
        simp [List.flatMap]
      rw [this, cutBy_flat L _ hf.2.1 hl]
    have hle : (foldN (d + 1) (L :: LL) D).map (fun t => ((prt t).length : Int)) = L := cutBy_lens L (foldN d LL D) hf.2.1 hl
    exact ⟨by rw [lv, hfl, h1, hle], by rw [dat, hfl, h2]⟩

end Go.Proofs.Ytdfanconjiiceaa
