/- Plain facts: the levels and the numbers of a list of arrays of a depth. -/
import Derived.Test.YtachjodnhgmoiaaGreatDoorByte
import Derived.Test.YtachjodnhgmoiaaGreatDoorFam
namespace Go.Proofs.YtachjodnhgmoiaaGreatDoor

/-- The parts of an array. -/
def prt {d : Nat} (t : T (d + 1)) : List (T d) := t
/-- How long the arrays of each level are, of arrays one behind the other. -/
def lv : (d : Nat) → List (T d) → List (List Int)
  | 0, _ => []
  | d + 1, ts => (ts.map fun t => ((prt t).length : Int)) :: lv d (ts.flatMap prt)
/-- Two lists of levels, level by level one behind the other. -/
def addL : List (List Int) → List (List Int) → List (List Int) := List.zipWith (· ++ ·)

theorem lv_len : ∀ (d : Nat) (ts : List (T d)), (lv d ts).length = d
  | 0, _ => rfl
  | d + 1, ts => by simp [lv, lv_len d]
theorem lv_append : ∀ (d : Nat) (ts us : List (T d)), lv d (ts ++ us) = addL (lv d ts) (lv d us)
  | 0, _, _ => rfl
  | d + 1, ts, us => by simp [lv, addL, lv_append d, List.flatMap_append]
theorem lv_one (d : Nat) (t : T (d + 1)) : lv (d + 1) [t] = [((prt t).length : Int)] :: lv d (prt t) := by simp [lv]
theorem lv_nil_add : ∀ (d : Nat) (LL : List (List Int)), LL.length = d → addL LL (lv d []) = LL
  | 0, LL, h => by
    obtain rfl := List.eq_nil_of_length_eq_zero h
    rfl
  | d + 1, L :: LL, h => by
    simp only [List.length_cons, Nat.add_right_cancel_iff] at h
    have := lv_nil_add d LL h
    simp only [lv, addL, List.map_nil, List.flatMap_nil, List.zipWith_cons_cons, List.append_nil] at this ⊢
    rw [this]
  | d + 1, [], h => by simp at h
theorem addL_assoc : ∀ (A B C : List (List Int)), addL (addL A B) C = addL A (addL B C)
  | [], _, _ => by simp [addL]
  | _ :: _, [], _ => by simp [addL]
  | _ :: _, _ :: _, [] => by simp [addL]
  | a :: A, b :: B, c :: C => by
    have := addL_assoc A B C
    simp only [addL, List.zipWith_cons_cons, List.append_assoc] at this ⊢
    rw [this]
theorem addL_len {A B : List (List Int)} (h : A.length = B.length) : (addL A B).length = A.length := by simp [addL, h]
theorem lv_zero_add (d : Nat) (ts : List (T d)) : addL (List.replicate d []) (lv d ts) = lv d ts := by
  induction d with
  | zero => rfl
  | succ d ih => simp only [List.replicate_succ, lv, addL, List.zipWith_cons_cons, List.nil_append]; congr 1; exact ih _

/-- All numbers of arrays one behind the other. -/
def dat : (d : Nat) → List (T d) → List Int
  | 0, ns => (show List Nat from ns).map (fun n : Nat => (n : Int))
  | d + 1, ts => dat d (ts.flatMap prt)
theorem dat_append : ∀ (d : Nat) (ts us : List (T d)), dat d (ts ++ us) = dat d ts ++ dat d us
  | 0, ts, us => List.map_append (l₁ := (show List Nat from ts)) (l₂ := (show List Nat from us))
  | d + 1, ts, us => by simp [dat, dat_append d, List.flatMap_append]
theorem dat_one (d : Nat) (t : T (d + 1)) : dat (d + 1) [t] = dat d (prt t) := by simp [dat]
theorem dat_nil : ∀ d, dat d [] = []
  | 0 => rfl
  | d + 1 => by simp [dat, dat_nil d]
theorem addL_le : ∀ {A B : List (List Int)} {i : Nat} {L : List Int}, A.length = B.length → A[i]? = some L → ∃ M, (addL A B)[i]? = some M ∧ L.length ≤ M.length
  | [], _, _, _, _, h => by simp at h
  | a :: A, [], _, _, h, _ => by simp at h
  | a :: A, b :: B, 0, L, _, h => by
    simp only [List.getElem?_cons_zero, Option.some.injEq] at h
    subst h
    exact ⟨a ++ b, by simp [addL], by simp⟩
  | a :: A, b :: B, i + 1, L, hl, h => by
    obtain ⟨M, h1, h2⟩ := addL_le (A := A) (B := B) (i := i) (by simpa using hl) (by simpa using h)
    exact ⟨M, by simpa [addL] using h1, h2⟩

/-- Levels behind those that are there, from one on. -/
def behind (k : Nat) (LL NL : List (List Int)) : List (List Int) := LL.take k ++ addL (LL.drop k) NL
theorem behind_len {k d : Nat} {LL NL : List (List Int)} (h : LL.length = k + d) (hn : NL.length = d) : (behind k LL NL).length = k + d := by
  rw [behind, List.length_append, addL_len (by rw [List.length_drop]; omega), List.length_take, List.length_drop]; omega
theorem behind_nil {k d : Nat} {LL : List (List Int)} (h : LL.length = k + d) : behind k LL (lv d []) = LL := by
  rw [behind, lv_nil_add d _ (by rw [List.length_drop]; omega), List.take_append_drop]
theorem behind_more {k d : Nat} {LL A B : List (List Int)} (h : LL.length = k + d) (_ha : A.length = d) : behind k (behind k LL A) B = behind k LL (addL A B) := by
  have h1 : (LL.take k).length = k := by rw [List.length_take]; omega
  have e1 : (behind k LL A).take k = LL.take k := by rw [behind, List.take_append_of_le_length (by omega), List.take_of_length_le (by omega)]
  have e2 : (behind k LL A).drop k = addL (LL.drop k) A := by rw [behind, List.drop_append_of_le_length (by omega), List.drop_of_length_le (by omega), List.nil_append]
  rw [behind, e1, e2, addL_assoc]
  rfl
theorem behind_step {k d j : Nat} {LL : List (List Int)} {ts : List (T d)} {t : T d} (h : LL.length = k + d) (ht : ts[j]? = some t) : behind k (behind k LL (lv d (ts.take j))) (lv d [t]) = behind k LL (lv d (ts.take (j + 1))) := by
  rw [behind_more h (lv_len d _), ← lv_append, List.take_add_one, ht]
  rfl
theorem behind_node {k d : Nat} {LL : List (List Int)} {L : List Int} (t : T (d + 1)) (h : LL.length = k + (d + 1)) (hL : LL[k]? = some L) : behind k LL (lv (d + 1) [t]) = behind (k + 1) (LL.set k (L ++ [((prt t).length : Int)])) (lv d (prt t)) := by
  have hk : k < LL.length := by omega
  have e1 : LL.drop k = L :: LL.drop (k + 1) := drop_at hL
  rw [behind, behind, e1, lv_one]
  have e2 : (LL.set k (L ++ [((prt t).length : Int)])).take (k + 1) = LL.take k ++ [L ++ [((prt t).length : Int)]] := by
    rw [List.take_add_one, List.take_set_of_le (Nat.le_refl _), List.getElem?_set_self hk]
    rfl
  have e3 : (LL.set k (L ++ [((prt t).length : Int)])).drop (k + 1) = LL.drop (k + 1) := by rw [List.drop_set_of_lt (by omega)]
  rw [e2, e3]
  simp [addL]
theorem behind_le {k d i : Nat} {LL NL : List (List Int)} {L : List Int} (h : LL.length = k + d) (hn : NL.length = d) (hL : LL[i]? = some L) : ∃ M, (behind k LL NL)[i]? = some M ∧ L.length ≤ M.length := by
  have h1 : (LL.take k).length = k := by rw [List.length_take]; omega
  rcases Nat.lt_or_ge i k with hi | hi
  · refine ⟨L, ?_, Nat.le_refl _⟩
    rw [behind, List.getElem?_append_left (by omega), List.getElem?_take, if_pos hi]
    exact hL
  · have h2 : (LL.drop k)[i - k]? = some L := by rw [List.getElem?_drop, show k + (i - k) = i from by omega]; exact hL
    obtain ⟨M, h3, h4⟩ := addL_le (B := NL) (by rw [List.length_drop]; omega) h2
    exact ⟨M, by rw [behind, List.getElem?_append_right (by omega), h1]; exact h3, h4⟩
/-- No list is longer than so many numbers. -/
def Short (LL : List (List Int)) : Prop := ∀ (i : Nat) (L : List Int), LL[i]? = some L → L.length ≤ 1000000
theorem Short.of_behind {k d : Nat} {LL NL : List (List Int)} (h : Short (behind k LL NL)) (hl : LL.length = k + d) (hn : NL.length = d) : Short LL := fun i L hL => by
  obtain ⟨M, h1, h2⟩ := behind_le hl hn hL
  have := h i M h1
  omega
theorem Short.part {k d j : Nat} {LL : List (List Int)} {ts : List (T d)} (h : Short (behind k LL (lv d ts))) (hl : LL.length = k + d) : Short (behind k LL (lv d (ts.take j))) := by
  have e : lv d ts = addL (lv d (ts.take j)) (lv d (ts.drop j)) := by rw [← lv_append, List.take_append_drop]
  rw [e, ← behind_more hl (lv_len d _)] at h
  exact h.of_behind (behind_len hl (lv_len d _)) (lv_len d _)
theorem dat_part {d : Nat} {ts : List (T d)} (j : Nat) : (dat d (ts.take j)).length ≤ (dat d ts).length := by
  have e : dat d ts = dat d (ts.take j) ++ dat d (ts.drop j) := by rw [← dat_append, List.take_append_drop]
  rw [e, List.length_append]
  omega
theorem dat_step {d j : Nat} {ts : List (T d)} {t : T d} (ht : ts[j]? = some t) : dat d (ts.take (j + 1)) = dat d (ts.take j) ++ dat d [t] := by
  rw [← dat_append, List.take_add_one, ht]
  rfl

/-- Where all numbers of parts are cut into parts by lengths. -/
def cutBy {α : Type} : List Int → List α → List (List α)
  | [], _ => []
  | z :: l, xs => xs.take z.toNat :: cutBy l (xs.drop z.toNat)
theorem cutBy_len {α : Type} : ∀ (l : List Int) (xs : List α), (cutBy l xs).length = l.length
  | [], _ => rfl
  | z :: l, xs => by simp [cutBy, cutBy_len l]
theorem cutBy_flat {α : Type} : ∀ (l : List Int) (xs : List α), okN 400 l = true → xs.length = (sumI l).toNat → (cutBy l xs).flatten = xs
  | [], xs, _, h => by
    have : xs = [] := List.eq_nil_of_length_eq_zero (by simpa [sumI] using h)
    simp [cutBy, this]
  | z :: l, xs, hok, h => by
    simp only [okN, Bool.and_eq_true, decide_eq_true_eq] at hok
    have hb := sumI_bound hok.2
    simp only [sumI] at h
    simp only [cutBy, List.flatten_cons]
    rw [cutBy_flat l _ hok.2 (by rw [List.length_drop]; omega), List.take_append_drop]
theorem cutBy_lens {α : Type} : ∀ (l : List Int) (xs : List α), okN 400 l = true → xs.length = (sumI l).toNat → (cutBy l xs).map (fun p => (p.length : Int)) = l
  | [], _, _, _ => rfl
  | z :: l, xs, hok, h => by
    simp only [okN, Bool.and_eq_true, decide_eq_true_eq] at hok
    have hb := sumI_bound hok.2
    simp only [sumI] at h
    simp only [cutBy, List.map_cons, List.length_take]
    rw [cutBy_lens l _ hok.2 (by rw [List.length_drop]; omega)]
    congr 1
    omega

end Go.Proofs.YtachjodnhgmoiaaGreatDoor
