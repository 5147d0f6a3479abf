/- Plain facts: things picked by indices, of parts cut by lengths. Nothing of the program. -/
import Derived.Test.YtdfanconjiiceaaPartT
import Derived.Test.YtdfanconjiiceaaTotL
import Derived.Test.YtdfanconjiiceaaFold
namespace Go.Proofs.Ytdfanconjiiceaa

/-- The things at indices. -/
def picks {α : Type} (xs : List α) (a : List Int) : List α := a.filterMap fun i => xs[i.toNat]?
/-- All indices are there. -/
def InN (c : Nat) (a : List Int) : Prop := ∀ i ∈ a, 0 ≤ i ∧ i < (c : Int)
theorem InN.take {c : Nat} {a : List Int} (h : InN c a) (j : Nat) : InN c (a.take j) := fun i hi => h i (List.mem_of_mem_take hi)
theorem picks_nil {α : Type} (xs : List α) : picks xs [] = [] := rfl
theorem picks_append {α : Type} (xs : List α) (a b : List Int) : picks xs (a ++ b) = picks xs a ++ picks xs b := List.filterMap_append
theorem picks_one {α : Type} {xs : List α} {i : Int} {x : α} (h : xs[i.toNat]? = some x) : picks xs [i] = [x] := by simp [picks, h]
theorem picks_step {α : Type} {xs : List α} {a : List Int} {j : Nat} {i : Int} {x : α} (hj : a[j]? = some i) (h : xs[i.toNat]? = some x) : picks xs (a.take (j + 1)) = picks xs (a.take j) ++ [x] := by
  rw [List.take_add_one, hj, Option.toList_some, picks_append, picks_one h]
theorem picks_len {α : Type} {xs : List α} : ∀ {a : List Int}, InN xs.length a → (picks xs a).length = a.length
  | [], _ => rfl
  | i :: a, h => by
    have h1 := h i (by simp)
    obtain ⟨x, hx⟩ : ∃ x, xs[i.toNat]? = some x := ⟨_, List.getElem?_eq_getElem (by omega)⟩
    have e : i :: a = [i] ++ a := rfl
    rw [e, picks_append, picks_one hx, List.length_append, picks_len (fun k hk => h k (by simp [hk]))]
    simp
    omega
theorem picks_mem {α : Type} {xs : List α} {a : List Int} {x : α} (h : x ∈ picks xs a) : x ∈ xs := by
  obtain ⟨i, _, hx⟩ := List.mem_filterMap.1 h
  exact List.mem_of_getElem? hx
theorem inN_at {c j : Nat} {a : List Int} {i : Int} (h : InN c a) (hj : a[j]? = some i) : 0 ≤ i ∧ i < (c : Int) := h i (List.mem_of_getElem? hj)

/-- The indices of the parts of one thing. -/
def partI (L : List Int) (i : Int) : List Int := (List.range ((L[i.toNat]?).getD 0).toNat).map fun k : Nat => sumI (L.take i.toNat) + (k : Int)
/-- The indices of the parts of the things at indices. -/
def innerN (L : List Int) (a : List Int) : List Int := a.flatMap (partI L)
/-- How long the things at indices are. -/
def lensN (L : List Int) (a : List Int) : List Int := a.map fun i => (L[i.toNat]?).getD 0
theorem innerN_step {L : List Int} {a : List Int} {j : Nat} {i : Int} (hj : a[j]? = some i) : innerN L (a.take (j + 1)) = innerN L (a.take j) ++ partI L i := by
  rw [List.take_add_one, hj, innerN, innerN, List.flatMap_append]
  simp
theorem lensN_step {L : List Int} {a : List Int} {j : Nat} {i z : Int} (hj : a[j]? = some i) (hz : L[i.toNat]? = some z) : lensN L (a.take (j + 1)) = lensN L (a.take j) ++ [z] := by
  rw [List.take_add_one, hj, lensN, lensN, List.map_append]
  simp [hz]
theorem lensN_len (L a : List Int) : (lensN L a).length = a.length := List.length_map _

theorem picks_range {α : Type} (xs : List α) (s : Int) (h0 : 0 ≤ s) : ∀ (z : Nat), picks xs ((List.range z).map fun k : Nat => s + (k : Int)) = (xs.drop s.toNat).take z
  | 0 => by simp [picks]
  | z + 1 => by
    rw [List.range_succ, List.map_append, picks_append, picks_range xs s h0 z, List.take_add_one]
    congr 1
    have e : (s + (z : Int)).toNat = s.toNat + z := by omega
    simp only [picks, List.map_cons, List.map_nil, List.filterMap_cons, List.filterMap_nil, e, List.getElem?_drop]
    cases xs[s.toNat + z]? <;> rfl
theorem picks_part {α : Type} {L : List Int} {xs : List α} {i z : Int} (hz : L[i.toNat]? = some z) (hok : okN 400 L = true) : picks xs (partI L i) = (xs.drop (sumI (L.take i.toNat)).toNat).take z.toNat := by
  have hb := sumI_bound (okN_take hok i.toNat)
  rw [partI, hz, Option.getD_some]
  exact picks_range xs _ hb.1 _
/-- What is picked of the parts is what the picked things have. -/
theorem picks_inner {α : Type} {L : List Int} {xs : List α} (hok : okN 400 L = true) : ∀ {a : List Int}, InN L.length a → picks xs (innerN L a) = (picks (cutBy L xs) a).flatten
  | [], _ => rfl
  | i :: a, h => by
    have h1 := h i (by simp)
    obtain ⟨z, hz⟩ : ∃ z, L[i.toNat]? = some z := ⟨_, List.getElem?_eq_getElem (by omega)⟩
    have e : i :: a = [i] ++ a := rfl
    have e2 : innerN L (i :: a) = partI L i ++ innerN L a := rfl
    rw [e2, e, picks_append, picks_append, picks_part hz hok, picks_one (cutBy_at hz hok), picks_inner hok (fun k hk => h k (by simp [hk])), List.flatten_append]
    simp
theorem lens_cut {α : Type} {L : List Int} {xs : List α} (hok : okN 400 L = true) (hx : xs.length = (sumI L).toNat) : ∀ {a : List Int}, InN L.length a → (picks (cutBy L xs) a).map (fun p => (p.length : Int)) = lensN L a
  | [], _ => rfl
  | i :: a, h => by
    have h1 := h i (by simp)
    obtain ⟨z, hz⟩ : ∃ z, L[i.toNat]? = some z := ⟨_, List.getElem?_eq_getElem (by omega)⟩
    have e : i :: a = [i] ++ a := rfl
    have e2 : lensN L (i :: a) = ((L[i.toNat]?).getD 0) :: lensN L a := rfl
    have h3 := lens_cut hok hx (a := a) (fun k hk => h k (by simp [hk]))
    have hzz := okN_at hz hok
    have hs := sumI_step hz
    have hb := sumI_bound (okN_take hok i.toNat)
    have hb2 := sumI_bound (okN_drop hok (i.toNat + 1))
    have e3 : sumI L = sumI (L.take (i.toNat + 1)) + sumI (L.drop (i.toNat + 1)) := by rw [← sumI_append, List.take_append_drop]
    rw [e2, hz, Option.getD_some, e, picks_append, picks_one (cutBy_at hz hok), List.map_append, h3]
    simp only [List.map_cons, List.map_nil, List.length_take, List.length_drop, List.cons_append, List.nil_append]
    congr 1
    omega
theorem partI_in {L : List Int} {i : Int} (hok : okN 400 L = true) (hi : i.toNat < L.length) : InN (sumI L).toNat (partI L i) := fun k hk => by
  obtain ⟨z, hz⟩ : ∃ z, L[i.toNat]? = some z := ⟨_, List.getElem?_eq_getElem hi⟩
  obtain ⟨q, hq, rfl⟩ := List.mem_map.1 hk
  rw [hz, Option.getD_some] at hq
  have hq := List.mem_range.1 hq
  have hzz := okN_at hz hok
  have hs := sumI_step hz
  have hb := sumI_bound (okN_take hok i.toNat)
  have hb2 := sumI_bound (okN_drop hok (i.toNat + 1))
  have e3 : sumI L = sumI (L.take (i.toNat + 1)) + sumI (L.drop (i.toNat + 1)) := by rw [← sumI_append, List.take_append_drop]
  omega
theorem innerN_in {L a : List Int} (hok : okN 400 L = true) (h : InN L.length a) : InN (sumI L).toNat (innerN L a) := fun k hk => by
  obtain ⟨i, hi, hki⟩ := List.mem_flatMap.1 hk
  have := h i hi
  exact partI_in hok (by omega) k hki

/-- How much arrays hold. -/
def szN (d : Nat) (ts : List (T d)) : Nat := totL (lv d ts) + (dat d ts).length
theorem szN_append (d : Nat) (ts us : List (T d)) : szN d (ts ++ us) = szN d ts + szN d us := by
  unfold szN
  rw [lv_append, dat_append, totL_addL _ _ (by rw [lv_len, lv_len]), List.length_append]
  omega
theorem szN_nil (d : Nat) : szN d [] = 0 := by
  unfold szN
  rw [totL_lv_nil, dat_nil]
  rfl
theorem szN_mem {d : Nat} {ts : List (T d)} {t : T d} (h : t ∈ ts) : szN d [t] ≤ szN d ts := by
  obtain ⟨a, b, rfl⟩ := List.append_of_mem h
  have e : t :: b = [t] ++ b := rfl
  rw [e, szN_append, szN_append]
  omega
theorem szN_picks {d : Nat} (ts : List (T d)) : ∀ (a : List Int), szN d (picks ts a) ≤ a.length * szN d ts
  | [] => by rw [picks_nil, szN_nil]; omega
  | i :: a => by
    have h1 := szN_picks ts a
    have e : i :: a = [i] ++ a := rfl
    have h2 : szN d (picks ts [i]) ≤ szN d ts := by
      cases hx : ts[i.toNat]? with
      | none => simp only [picks, List.filterMap_cons, List.filterMap_nil, hx]; rw [szN_nil]; omega
      | some x => rw [picks_one hx]; exact szN_mem (List.mem_of_getElem? hx)
    rw [e, picks_append, szN_append, List.length_append]
    have e3 : ([i].length + a.length) * szN d ts = szN d ts + a.length * szN d ts := by
      rw [Nat.add_mul]; simp
    omega
theorem szN_len : ∀ (d : Nat) (ts : List (T d)), ts.length ≤ szN d ts
  | 0, ts => by
    have : (dat 0 ts).length = ts.length := List.length_map _
    unfold szN
    omega
  | d + 1, ts => by
    unfold szN
    rw [lv, totL, List.length_map]
    omega
theorem szN_succ (d : Nat) (ts : List (T (d + 1))) : szN (d + 1) ts = ts.length + szN d (ts.flatMap prt) := by
  unfold szN
  rw [lv, totL, List.length_map, dat]
  omega

end Go.Proofs.Ytdfanconjiiceaa
