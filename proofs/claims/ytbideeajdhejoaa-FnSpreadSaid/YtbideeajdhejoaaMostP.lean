/- Plain facts: the greatest numbers of segments. -/
import Derived.Test.YtbideeajdhejoaaImplO
import Derived.Test.YtbideeajdhejoaaCutIn
import Derived.Test.YtbideeajdhejoaaStartsI
namespace Go.Proofs.Ytbideeajdhejoaa

theorem fold_max : ∀ (l : List Int) (a : Int), a ≤ l.foldl mostF a ∧ (∀ x ∈ l, x ≤ l.foldl mostF a) ∧ (l.foldl mostF a = a ∨ l.foldl mostF a ∈ l)
  | [], a => ⟨Int.le_refl _, by simp, .inl rfl⟩
  | y :: l, a => by
    obtain ⟨h1, h2, h3⟩ := fold_max l (mostF a y)
    have hm : mostF a y = max a y := rfl
    rw [List.foldl_cons]
    refine ⟨by omega, ?_, ?_⟩
    · intro x hx
      rcases List.mem_cons.1 hx with rfl | hx
      · omega
      · exact h2 x hx
    · rcases h3 with h3 | h3
      · by_cases hay : y ≤ a
        · exact .inl (by rw [h3]; omega)
        · exact .inr (by rw [h3, show mostF a y = y from by omega]; exact List.mem_cons_self)
      · exact .inr (List.mem_cons_of_mem _ h3)

/-- What the law looks for. -/
theorem most_pure {L D : List Int} (hs : segsB L D = true) {i : Nat} {z : Int} (hz : L[i]? = some z) :
    ∃ (s n : Nat) (M : Int), z = (n : Int) ∧ s + n ≤ D.length ∧ (startsR L)[i]? = some (s : Int) ∧ (mostR L D)[i]? = some M ∧ (n = 0 → M = 0) ∧
      (∀ x ∈ (D.drop s).take n, x ≤ M) ∧ (0 < n → M ∈ (D.drop s).take n) := by
  obtain ⟨hl, hd, hok⟩ := segsB_get hs
  obtain ⟨_, hlo, h4, h0⟩ := lensB_get hl
  obtain ⟨hz0, hz4, hs0, hsz⟩ := sumI_le hlo hz
  have hcut := cutI_at L D i z hlo hz
  have hin := cutI_in L D i _ hok hcut
  refine ⟨(sumI (L.take i)).toNat, z.toNat, _, by omega, by omega, ?_, ?_, ?_, (fold_max _ 0).2.1, ?_⟩
  · rw [startsR, if_pos hl, startsI_at L 0 i z hz]
    congr 1
    omega
  · rw [mostR, if_pos hs, List.getElem?_map, hcut]
    rfl
  · intro h
    simp [h]
  · intro hn
    rcases (fold_max ((D.drop (sumI (L.take i)).toNat).take z.toNat) 0).2.2 with h | h
    · have hlen : ((D.drop (sumI (L.take i)).toNat).take z.toNat).length = z.toNat := by rw [List.length_take, List.length_drop]; omega
      have h0 : 0 < ((D.drop (sumI (L.take i)).toNat).take z.toNat).length := by omega
      have hx := List.getElem_mem h0
      have h1 := (fold_max ((D.drop (sumI (L.take i)).toNat).take z.toNat) 0).2.1 _ hx
      have h2 := okN_at (List.getElem?_eq_getElem h0) hin.1
      rw [show ((D.drop (sumI (L.take i)).toNat).take z.toNat).foldl mostF 0 = ((D.drop (sumI (L.take i)).toNat).take z.toNat)[0] from by omega]
      exact hx
    · exact h

theorem most_len {L D : List Int} (hs : segsB L D = true) : (mostR L D).length = L.length := by rw [mostR, if_pos hs, List.length_map, cutI_len]
theorem most_le {L D : List Int} (hL : L.length ≤ 1048576) : (mostR L D).length ≤ 1048576 := by
  unfold mostR
  split
  · rw [List.length_map, cutI_len]; exact hL
  · simp

end Go.Proofs.Ytbideeajdhejoaa
