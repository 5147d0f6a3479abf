/- Rows of ints that a call owns, several at once; the laws' copies: toIntS, toIntSS, toLayout. -/
import Derived.Test.YtachjodnhgmoiaaGreatDoorGr
import Derived.Test.YtachjodnhgmoiaaGreatDoorPr
import Derived.IntWalk
import Derived.Below
import Derived.Test.YtachjodnhgmoiaaGreatDoorOwn
import Derived.Test.YtachjodnhgmoiaaGreatDoorIntE
namespace Go.Proofs.YtachjodnhgmoiaaGreatDoor


/-- The sum of numbers. -/
def sumI : List Int → Int
  | [] => 0
  | z :: l => z + sumI l
/-- Are all numbers from 0 to a greatest one? -/
def okN (hi : Int) : List Int → Bool
  | [] => true
  | z :: l => decide (0 ≤ z ∧ z ≤ hi) && okN hi l

theorem sumI_append : ∀ (l m : List Int), sumI (l ++ m) = sumI l + sumI m
  | [], m => by simp [sumI]
  | z :: l, m => by simp only [List.cons_append, sumI, sumI_append l m]; omega
theorem sumI_step {l : List Int} {j : Nat} {z : Int} (h : l[j]? = some z) : sumI (l.take (j + 1)) = sumI (l.take j) + z := by
  rw [List.take_add_one, h, sumI_append]
  simp [sumI]
theorem okN_append (hi : Int) : ∀ (l m : List Int), okN hi (l ++ m) = (okN hi l && okN hi m)
  | [], m => by simp [okN]
  | z :: l, m => by simp only [List.cons_append, okN, okN_append hi l m, Bool.and_assoc]
theorem okN_step {hi : Int} {l : List Int} {j : Nat} {z : Int} (h : l[j]? = some z) (h1 : okN hi (l.take j) = true) (h2 : 0 ≤ z) (h3 : z ≤ hi) : okN hi (l.take (j + 1)) = true := by
  rw [List.take_add_one, h, okN_append, h1]
  simp [okN, h2, h3]
theorem okN_at {hi : Int} : ∀ {l : List Int} {j : Nat} {z : Int}, l[j]? = some z → okN hi l = true → 0 ≤ z ∧ z ≤ hi
  | [], _, _, h, _ => by simp at h
  | z :: l, 0, y, h, h1 => by
    simp only [List.getElem?_cons_zero, Option.some.injEq] at h
    subst h
    simp only [okN, Bool.and_eq_true, decide_eq_true_eq] at h1
    exact h1.1
  | z :: l, j + 1, y, h, h1 => by
    simp only [okN, Bool.and_eq_true] at h1
    exact okN_at (l := l) (j := j) (by simpa using h) h1.2
theorem okN_bad {hi : Int} {l : List Int} {j : Nat} {z : Int} (h : l[j]? = some z) (h2 : z < 0 ∨ hi < z) : okN hi l = false := by
  cases hb : okN hi l with
  | false => rfl
  | true => have := okN_at h hb; omega
theorem sumI_bound {hi : Int} : ∀ {l : List Int}, okN hi l = true → 0 ≤ sumI l ∧ sumI l ≤ hi * l.length
  | [], _ => by simp [sumI]
  | z :: l, h => by
    simp only [okN, Bool.and_eq_true, decide_eq_true_eq] at h
    have := sumI_bound h.2
    simp only [sumI, List.length_cons]
    have e : hi * ((l.length + 1 : Nat) : Int) = hi * l.length + hi := by rw [Int.natCast_add, Int.mul_add]; simp
    omega
theorem okN_take {hi : Int} {l : List Int} (h : okN hi l = true) (j : Nat) : okN hi (l.take j) = true := by
  have e : l.take j ++ l.drop j = l := List.take_append_drop j l
  rw [← e, okN_append] at h
  exact (Bool.and_eq_true _ _ ▸ h).1
theorem okN_drop {hi : Int} {l : List Int} (h : okN hi l = true) (j : Nat) : okN hi (l.drop j) = true := by
  have e : l.take j ++ l.drop j = l := List.take_append_drop j l
  rw [← e, okN_append] at h
  exact (Bool.and_eq_true _ _ ▸ h).2
theorem sumI_take_bound {l : List Int} (h : okN 400 l = true) (j : Nat) : 0 ≤ sumI (l.take j) ∧ sumI (l.take j) ≤ 400 * j := by
  have h1 := sumI_bound (okN_take h j)
  have h2 : (l.take j).length ≤ j := List.length_take_le _ _
  omega

/-- What is wrong with the levels from one on: its index, or that of the data, or -1. -/
def wrongAt : Nat → Nat → List (List Int) → List Int → Int
  | k, c, [], D => if D.length = c ∧ okN 10006 D = true then -1 else k
  | k, c, L :: LL, D => if k < 3 ∧ L.length = c ∧ okN 400 L = true then wrongAt (k + 1) (sumI L).toNat LL D else k
def wrong (LL : List (List Int)) (D : List Int) : Int := wrongAt 0 1 LL D

theorem wrongAt_range : ∀ (LL : List (List Int)) (k c : Nat) (D : List Int), -1 ≤ wrongAt k c LL D ∧ wrongAt k c LL D ≤ ((k + LL.length : Nat) : Int)
  | [], k, c, D => by
    unfold wrongAt
    split <;> simp <;> omega
  | L :: LL, k, c, D => by
    unfold wrongAt
    have := wrongAt_range LL (k + 1) (sumI L).toNat D
    split
    · simp only [List.length_cons]; omega
    · simp only [List.length_cons]; omega

theorem drop_at {LL : List (List Int)} {k : Nat} {L : List Int} (h : LL[k]? = some L) : LL.drop k = L :: LL.drop (k + 1) := by
  have hk : k < LL.length := (List.getElem?_eq_some_iff.1 h).1
  rw [List.drop_eq_getElem_cons hk]
  congr 1
  exact (List.getElem?_eq_some_iff.1 h).2
theorem wrong_next {LL : List (List Int)} {k c : Nat} {L D : List Int} {r : Int} (h : LL[k]? = some L) (hr : wrongAt k c (LL.drop k) D = r) (h1 : k < 3) (h2 : L.length = c) (h3 : okN 400 L = true) : wrongAt (k + 1) (sumI L).toNat (LL.drop (k + 1)) D = r := by
  rw [drop_at h, wrongAt, if_pos ⟨h1, h2, h3⟩] at hr
  exact hr
theorem wrong_stop {LL : List (List Int)} {k c : Nat} {L D : List Int} {r : Int} (h : LL[k]? = some L) (hr : wrongAt k c (LL.drop k) D = r) (h1 : ¬ (k < 3 ∧ L.length = c ∧ okN 400 L = true)) : r = k := by
  rw [drop_at h, wrongAt, if_neg h1] at hr
  exact hr.symm
theorem wrong_end {LL : List (List Int)} {k c : Nat} {D : List Int} {r : Int} (h : LL.length ≤ k) (hr : wrongAt k c (LL.drop k) D = r) : r = if D.length = c ∧ okN 10006 D = true then -1 else (k : Int) := by
  rw [List.drop_eq_nil_of_le h, wrongAt] at hr
  exact hr.symm

/-- A layout in which nothing is wrong: each level has as many numbers as the one before adds up to. -/
def Fits : Nat → List (List Int) → List Int → Prop
  | c, [], D => D.length = c ∧ okN 10006 D = true
  | c, L :: LL, D => L.length = c ∧ okN 400 L = true ∧ Fits (sumI L).toNat LL D
theorem wrongAt_fits : ∀ (LL : List (List Int)) (k c : Nat) (D : List Int), wrongAt k c LL D = -1 → k + LL.length ≤ 3 ∨ LL = [] → Fits c LL D
  | [], k, c, D, h, _ => by
    unfold wrongAt at h
    split at h
    · assumption
    · omega
  | L :: LL, k, c, D, h, h3 => by
    unfold wrongAt at h
    split at h
    · rename_i hc
      refine ⟨hc.2.1, hc.2.2, wrongAt_fits LL (k + 1) _ D h ?_⟩
      rcases h3 with h3 | h3
      · left; simp only [List.length_cons] at h3; omega
      · cases h3
    · omega
theorem wrongAt_levels : ∀ (LL : List (List Int)) (k c : Nat) (D : List Int), wrongAt k c LL D = -1 → LL = [] ∨ k + LL.length ≤ 3
  | [], _, _, _, _ => .inl rfl
  | L :: LL, k, c, D, h => by
    unfold wrongAt at h
    split at h
    · rename_i hc
      rcases wrongAt_levels LL (k + 1) _ D h with rfl | h3
      · right; simp only [List.length_cons, List.length_nil]; omega
      · right; simp only [List.length_cons]; omega
    · omega
theorem wrong_fits {LL : List (List Int)} {D : List Int} (h : wrong LL D = -1) : LL.length ≤ 3 ∧ Fits 1 LL D := by
  have h3 : LL.length ≤ 3 := by
    rcases wrongAt_levels LL 0 1 D h with rfl | h3
    · simp
    · omega
  exact ⟨h3, wrongAt_fits LL 0 1 D h (.inl (by omega))⟩
theorem fits_wrong : ∀ (LL : List (List Int)) (k c : Nat) (D : List Int), Fits c LL D → k + LL.length ≤ 3 ∨ LL = [] → wrongAt k c LL D = -1
  | [], k, c, D, h, _ => if_pos h
  | L :: LL, k, c, D, ⟨h1, h2, h3⟩, hk => by
    have hk' : k + (LL.length + 1) ≤ 3 := by
      rcases hk with h | h
      · simpa using h
      · cases h
    rw [wrongAt, if_pos ⟨by omega, h1, h2⟩]
    exact fits_wrong LL (k + 1) _ D h3 (.inl (by omega))

/-- Where a path leads, from a place on. -/
def placeAt : Nat → List (List Int) → List Int → Int
  | p, L :: LL, i :: path => if 0 ≤ i ∧ i < (L[p]?).getD 0 then placeAt (sumI (L.take p) + i).toNat LL path else -1
  | p, _, _ => p
theorem place_next {LL : List (List Int)} {path : List Int} {k p : Nat} {L : List Int} {i n r : Int} (h : LL[k]? = some L) (h2 : path[k]? = some i) (hn : L[p]? = some n) (hr : placeAt p (LL.drop k) (path.drop k) = r) (h0 : 0 ≤ i) (h1 : i < n) :
    placeAt (sumI (L.take p) + i).toNat (LL.drop (k + 1)) (path.drop (k + 1)) = r := by
  have hk : k < path.length := (List.getElem?_eq_some_iff.1 h2).1
  rw [drop_at h, List.drop_eq_getElem_cons hk, (List.getElem?_eq_some_iff.1 h2).2, placeAt, hn, Option.getD_some, if_pos ⟨h0, h1⟩] at hr
  exact hr
theorem place_stop {LL : List (List Int)} {path : List Int} {k p : Nat} {L : List Int} {i n r : Int} (h : LL[k]? = some L) (h2 : path[k]? = some i) (hn : L[p]? = some n) (hr : placeAt p (LL.drop k) (path.drop k) = r) (h1 : ¬ (0 ≤ i ∧ i < n)) : r = -1 := by
  have hk : k < path.length := (List.getElem?_eq_some_iff.1 h2).1
  rw [drop_at h, List.drop_eq_getElem_cons hk, (List.getElem?_eq_some_iff.1 h2).2, placeAt, hn, Option.getD_some, if_neg h1] at hr
  exact hr.symm
theorem place_end {LL : List (List Int)} {path : List Int} {k p : Nat} {r : Int} (h : LL.length ≤ k) (hr : placeAt p (LL.drop k) (path.drop k) = r) : r = p := by
  rw [List.drop_eq_nil_of_le h, placeAt] at hr
  · exact hr.symm
  · intros; simp_all

/-- The level that a walk has come to, of a layout in which nothing is wrong. -/
theorem fits_drop : ∀ {LL : List (List Int)} {c k : Nat} {D L : List Int}, Fits c LL D → LL[k]? = some L → okN 400 L = true ∧ Fits (sumI L).toNat (LL.drop (k + 1)) D ∧ ∃ c', L.length = c' ∧ Fits c' (LL.drop k) D
  | [], _, _, _, _, _, h => by simp at h
  | L :: LL, c, 0, D, M, hf, h => by
    simp only [List.getElem?_cons_zero, Option.some.injEq] at h
    subst h
    exact ⟨hf.2.1, hf.2.2, c, hf.1, hf⟩
  | L :: LL, c, k + 1, D, M, ⟨_, _, hf⟩, h => fits_drop (LL := LL) (k := k) hf (by simpa using h)
theorem fits_next {LL : List (List Int)} {k : Nat} {D L : List Int} {p : Nat} {i n : Int} (hf : Fits (sumI L).toNat (LL.drop (k + 1)) D) (hok : okN 400 L = true) (hn : L[p]? = some n) (h0 : 0 ≤ i) (h1 : i < n) :
    (∀ M, LL[k + 1]? = some M → (sumI (L.take p) + i).toNat < M.length) ∧ 0 ≤ sumI (L.take p) + i ∧ sumI (L.take p) + i < sumI L := by
  have hs := sumI_step hn
  have h2 := sumI_bound (okN_take hok p)
  have h3 := sumI_bound (okN_drop hok (p + 1))
  have e : sumI L = sumI (L.take (p + 1)) + sumI (L.drop (p + 1)) := by rw [← sumI_append, List.take_append_drop]
  refine ⟨fun M hM => ?_, by omega, by omega⟩
  rw [drop_at hM] at hf
  have := hf.1
  omega

section
open Go.RowKit

/-- The slice's cells are slices of these lists. -/
def Rws (w : World) (A : Option Addr) (LL : List (List Int)) : Prop :=
  0 < LL.length → ∃ b off, A = some ⟨b, off, none⟩ ∧ b < w.heap.size ∧ ∀ (j : Nat) (L : List Int), LL[j]? = some L → ∃ B c, w.cell? ⟨b, off + j, none⟩ = some (.slice B L.length c) ∧ L.length ≤ c ∧ Ints w B L
theorem Rws.grown {w w' : World} {A : Option Addr} {LL : List (List Int)} (h : Rws w A LL) (hg : w.grownBy w' none) : Rws w' A LL := fun hl => by
  obtain ⟨b, off, rfl, hb, hc⟩ := h hl
  refine ⟨b, off, rfl, Nat.lt_of_lt_of_le hb hg.size, fun j L hj => ?_⟩
  obtain ⟨B, c, h1, h2, h3⟩ := hc j L hj
  exact ⟨B, c, hg.cell h1 (by simp), h2, h3.grown hg (by simp)⟩
theorem Rws.at_ {w : World} {A : Option Addr} {LL : List (List Int)} {j : Nat} {L : List Int} (h : Rws w A LL) (hj : LL[j]? = some L) :
    ∃ b off B c, A = some ⟨b, off, none⟩ ∧ w.cell? ⟨b, off + j, none⟩ = some (.slice B L.length c) ∧ L.length ≤ c ∧ Ints w B L := by
  have hl : j < LL.length := (List.getElem?_eq_some_iff.1 hj).1
  obtain ⟨b, off, rfl, _, hc⟩ := h (by omega)
  obtain ⟨B, c, h1, h2, h3⟩ := hc j L hj
  exact ⟨b, off, B, c, rfl, h1, h2, h3⟩

/-- A layout's two cells. -/
def Lyt (w : World) (v : Value) (LL : List (List Int)) (D : List Int) : Prop :=
  ∃ A c B d, v = .agg #[.slice A LL.length c, .slice B D.length d] ∧ LL.length ≤ c ∧ D.length ≤ d ∧ Rws w A LL ∧ Ints w B D
theorem Lyt.grown {w w' : World} {v : Value} {LL : List (List Int)} {D : List Int} (h : Lyt w v LL D) (hg : w.grownBy w' none) : Lyt w' v LL D := by
  obtain ⟨A, c, B, d, rfl, h1, h2, h3, h4⟩ := h
  exact ⟨A, c, B, d, rfl, h1, h2, h3.grown hg, h4.grown hg (by simp)⟩

/-- How many numbers the lists have. -/
def totL : List (List Int) → Nat
  | [] => 0
  | L :: LL => L.length + totL LL
theorem totL_append : ∀ (A B : List (List Int)), totL (A ++ B) = totL A + totL B
  | [], B => by simp [totL]
  | L :: A, B => by simp [totL, totL_append A B, Nat.add_assoc]
theorem totL_step {LL : List (List Int)} {j : Nat} {L : List Int} (h : LL[j]? = some L) : totL (LL.take (j + 1)) = totL (LL.take j) + L.length := by
  rw [List.take_add_one, h, totL_append]
  simp [totL]
theorem totL_at {LL : List (List Int)} {j : Nat} {L : List Int} (h : LL[j]? = some L) : L.length ≤ totL LL := by
  have h1 := totL_step h
  have e : LL.take (j + 1) ++ LL.drop (j + 1) = LL := List.take_append_drop _ _
  have h2 := totL_append (LL.take (j + 1)) (LL.drop (j + 1))
  rw [e] at h2
  omega
end

section
open Go.RowKit

/-- A row of ints that is owned, unless it is empty. -/
def OwnR (w : World) (base : Nat) (v : Value) (L : List Int) : Prop :=
  ∃ A c, v = .slice A L.length c ∧ L.length ≤ c ∧ (0 < L.length → w.ownsRow base 3 1 v L.length (L.map (Value.int .i64)))
/-- The first rows, whose blocks are all different. -/
def Fam (w : World) (base j : Nat) (vs : List Value) (LL : List (List Int)) : Prop :=
  (∀ (i : Nat) (L : List Int), i < j → LL[i]? = some L → ∃ v, vs[i]? = some v ∧ OwnR w base v L) ∧
  (∀ (i i' : Nat) (v u : Value) (L L' : List Int) (g : Nat), i < j → i' < j → i ≠ i' → vs[i]? = some v → vs[i']? = some u → LL[i]? = some L → LL[i']? = some L' → 0 < L.length → 0 < L'.length → v.ownBlock = some g → u.ownBlock ≠ some g)

theorem OwnR.ints {w : World} {base : Nat} {A : Option Addr} {n c : Nat} {L : List Int} (h : OwnR w base (.slice A n c) L) : n = L.length ∧ L.length ≤ c ∧ Ints w A L := by
  obtain ⟨A', c', hv, hc, ho⟩ := h
  cases hv
  exact ⟨rfl, hc, fun hl => Ints.of_own (ho hl) hl⟩
theorem OwnR.kept {w w' : World} {base : Nat} {v : Value} {L : List Int} (h : OwnR w base v L) (hk : ∀ g, 0 < L.length → v.ownBlock = some g → w'.heap[g]? = w.heap[g]?) : OwnR w' base v L := by
  obtain ⟨A, c, hv, hc, ho⟩ := h
  exact ⟨A, c, hv, hc, fun hl => own_keep (ho hl) (fun g hg => hk g hl hg)⟩
theorem OwnR.low {w : World} {base base' : Nat} {v : Value} {L : List Int} (h : OwnR w base v L) (hb : base' ≤ base) : OwnR w base' v L := by
  obtain ⟨A, c, hv, hc, ho⟩ := h
  exact ⟨A, c, hv, hc, fun hl => own_base (ho hl) hb⟩
theorem OwnR.lt {w : World} {base : Nat} {v : Value} {L : List Int} (h : OwnR w base v L) (hl : 0 < L.length) : ∀ g, v.ownBlock = some g → base ≤ g ∧ g < w.heap.size := by
  obtain ⟨A, c, hv, hc, ho⟩ := h
  exact (ho hl).lt
theorem OwnR.grown {w w' : World} {base : Nat} {v : Value} {L : List Int} {row : Option Nat} (h : OwnR w base v L) (hg : w.grownBy w' row) (hne : ∀ g, 0 < L.length → v.ownBlock = some g → some g ≠ row) : OwnR w' base v L :=
  h.kept (fun g hl hv => hg.block g (h.lt hl g hv).2 (hne g hl hv))
theorem own_typ {w : World} {base base' : Nat} {e e' : TypeId} {k n n' : Nat} {v v' : Value} {xs xs' : List Value} {g : Nat} (h : w.ownsRow base e k v n xs) (h' : w.ownsRow base' e' k v' n' xs') (hg : v.ownBlock = some g) (hg' : v'.ownBlock = some g) : e = e' := by
  rcases h.2 with ⟨rfl, _⟩ | ⟨b, cap, cur, rfl, _, hb, _⟩
  · simp [Value.ownBlock] at hg
  · rcases h'.2 with ⟨rfl, _⟩ | ⟨b', cap', cur', rfl, _, hb', _⟩
    · simp [Value.ownBlock] at hg'
    · simp only [Value.ownBlock, Option.some.injEq] at hg hg'
      subst hg hg'
      rw [hb] at hb'
      cases hb'
      rfl

theorem Fam.zero (w : World) (base : Nat) (vs : List Value) (LL : List (List Int)) : Fam w base 0 vs LL := ⟨fun _ _ h => by omega, fun _ _ _ _ _ _ _ h => by omega⟩
theorem Fam.kept {w w' : World} {base j : Nat} {vs : List Value} {LL : List (List Int)} (h : Fam w base j vs LL) (hk : ∀ i L v g, i < j → LL[i]? = some L → vs[i]? = some v → 0 < L.length → v.ownBlock = some g → w'.heap[g]? = w.heap[g]?) : Fam w' base j vs LL :=
  ⟨fun i L hi hL => by
    obtain ⟨v, hv, ho⟩ := h.1 i L hi hL
    exact ⟨v, hv, ho.kept (fun g hl hg => hk i L v g hi hL hv hl hg)⟩, h.2⟩
theorem Fam.low {w : World} {base base' j : Nat} {vs : List Value} {LL : List (List Int)} (h : Fam w base j vs LL) (hb : base' ≤ base) : Fam w base' j vs LL :=
  ⟨fun i L hi hL => by
    obtain ⟨v, hv, ho⟩ := h.1 i L hi hL
    exact ⟨v, hv, ho.low hb⟩, h.2⟩
theorem Fam.lt {w : World} {base j : Nat} {vs : List Value} {LL : List (List Int)} (h : Fam w base j vs LL) {i : Nat} {L : List Int} {v : Value} {g : Nat} (hi : i < j) (hL : LL[i]? = some L) (hv : vs[i]? = some v) (hl : 0 < L.length) (hg : v.ownBlock = some g) : base ≤ g ∧ g < w.heap.size := by
  obtain ⟨v', hv', ho⟩ := h.1 i L hi hL
  rw [hv] at hv'
  cases hv'
  exact ho.lt hl g hg
theorem Fam.grown {w w' : World} {base j : Nat} {vs : List Value} {LL : List (List Int)} (h : Fam w base j vs LL) (hg : w.grownBy w' none) : Fam w' base j vs LL :=
  h.kept (fun _ _ _ g hi hL hv hl hb => hg.block g (h.lt hi hL hv hl hb).2 (by simp))
/-- What is written in a row of rows leaves rows of ints as they are. -/
theorem OwnR.aside {w w' : World} {base base' n : Nat} {v u : Value} {xs : List Value} {L : List Int} (h : OwnR w base v L) (ho : w.ownsRow base' 25 1 u n xs) (hg : w.grownBy w' u.ownBlock) : OwnR w' base v L :=
  h.grown hg (fun g hl hv e => by
    obtain ⟨A, c, rfl, _, h1⟩ := id h
    have := own_typ (h1 hl) ho hv e.symm
    exact absurd this (by decide))
theorem Fam.aside {w w' : World} {base base' j n : Nat} {vs : List Value} {LL : List (List Int)} {u : Value} {xs : List Value} (h : Fam w base j vs LL) (ho : w.ownsRow base' 25 1 u n xs) (hg : w.grownBy w' u.ownBlock) : Fam w' base j vs LL :=
  ⟨fun i L hi hL => by
    obtain ⟨v, hv, h1⟩ := h.1 i L hi hL
    exact ⟨v, hv, h1.aside ho hg⟩, h.2⟩
/-- One row more, in a block that is new. -/
theorem Fam.more {w : World} {base j lo : Nat} {vs vs' : List Value} {LL : List (List Int)} {L : List Int} {v : Value} (h : Fam w base j vs LL) (hL : LL[j]? = some L) (hv : vs'[j]? = some v) (hsame : ∀ i, i < j → vs'[i]? = vs[i]?)
    (ho : OwnR w base v L) (hnew : ∀ g, 0 < L.length → v.ownBlock = some g → lo ≤ g) (hold : ∀ i M u g, i < j → LL[i]? = some M → vs[i]? = some u → 0 < M.length → u.ownBlock = some g → g < lo) : Fam w base (j + 1) vs' LL := by
  refine ⟨fun i M hi hM => ?_, fun i i' u u' M M' g hi hi' hne hu hu' hM hM' hl hl' hb => ?_⟩
  · by_cases e : i = j
    · subst e
      rw [hL] at hM
      cases hM
      exact ⟨v, hv, ho⟩
    · obtain ⟨u, hu, h1⟩ := h.1 i M (by omega) hM
      exact ⟨u, (hsame i (by omega)).trans hu, h1⟩
  · by_cases e : i = j
    · subst e
      rw [hL] at hM; cases hM
      rw [hv] at hu; cases hu
      have h1 := hnew g hl hb
      intro hb'
      rw [hsame i' (by omega)] at hu'
      have := hold i' M' u' g (by omega) hM' hu' hl' hb'
      omega
    · by_cases e' : i' = j
      · subst e'
        rw [hL] at hM'; cases hM'
        rw [hv] at hu'; cases hu'
        intro hb'
        have h1 := hnew g hl' hb'
        rw [hsame i (by omega)] at hu
        have := hold i M u g (by omega) hM hu hl hb
        omega
      · exact h.2 i i' u u' M M' g (by omega) (by omega) hne ((hsame i (by omega)).symm.trans hu) ((hsame i' (by omega)).symm.trans hu') hM hM' hl hl' hb

/-- A layout whose memory is all its own: the levels' row, and the rows of ints. -/
def OwnLyt (w : World) (base : Nat) (v : Value) (LL : List (List Int)) (D : List Int) : Prop :=
  ∃ A c d vs, v = .agg #[.slice A LL.length c, d] ∧ LL.length ≤ c ∧ w.ownsRow base 25 1 (.slice A LL.length c) LL.length vs ∧ Fam w base (LL.length + 1) (vs ++ [d]) (LL ++ [D])
theorem rws_own {w : World} {base : Nat} {A : Option Addr} {c : Nat} {vs : List Value} {LL : List (List Int)} (h : w.ownsRow base 25 1 (.slice A LL.length c) LL.length vs) (hf : ∀ (i : Nat) (L : List Int), LL[i]? = some L → ∃ v, vs[i]? = some v ∧ OwnR w base v L) : Rws w A LL := fun hl => by
  have hcell := fun g => h.cells (g := g)
  rcases h.2 with ⟨hv, hn⟩ | ⟨g, cap, cur, hv, _, hg, hnc, _⟩
  · omega
  · cases hv
    refine ⟨g, 0, rfl, (Array.getElem?_eq_some_iff.1 hg).1, fun j L hj => ?_⟩
    obtain ⟨v, hv, ho⟩ := hf j L hj
    obtain ⟨B, d, rfl, _⟩ := id ho
    obtain ⟨_, h2, h3⟩ := ho.ints
    exact ⟨B, d, by have := hcell g rfl j _ hv; rwa [addr_flat] at this, h2, h3⟩
theorem OwnLyt.lyt {w : World} {base : Nat} {v : Value} {LL : List (List Int)} {D : List Int} (h : OwnLyt w base v LL D) : Lyt w v LL D := by
  obtain ⟨A, c, d, vs, rfl, hc, ho, hf⟩ := h
  have hlen : vs.length = LL.length := by have := ho.1; omega
  obtain ⟨d', hd', hod⟩ := hf.1 LL.length D (by omega) (by simp)
  rw [List.getElem?_append_right (by omega), hlen] at hd'
  simp only [Nat.sub_self, List.getElem?_cons_zero, Option.some.injEq] at hd'
  subst hd'
  obtain ⟨B, e, rfl, _⟩ := id hod
  obtain ⟨_, h2, h3⟩ := hod.ints
  refine ⟨A, c, B, e, rfl, hc, h2, rws_own ho (fun i L hL => ?_), h3⟩
  have hi := (List.getElem?_eq_some_iff.1 hL).1
  obtain ⟨v, hv, ho⟩ := hf.1 i L (by omega) (by rw [List.getElem?_append_left hi]; exact hL)
  rw [List.getElem?_append_left (by omega)] at hv
  exact ⟨v, hv, ho⟩


theorem sz_alloc (u : World) (o : Obj) : (u.alloc o).heap.size = u.heap.size + 1 := by simp

theorem infoL : (Tryz.prog.info? 25).map (fun i => (i.zero, i.size, i.bytes)) = some (some (.slice none 0 0), 1, 24) := by kernel_rfl

theorem Fam.all {w : World} {base n : Nat} {vs : List Value} {LL : List (List Int)} (h : Fam w base n vs LL) (hv : vs.length = LL.length) (hn : n = LL.length) {d : Value} {D : List Int} (lo : Nat) (ho : OwnR w base d D) (hnew : ∀ g, 0 < D.length → d.ownBlock = some g → lo ≤ g)
    (hold : ∀ (i : Nat) M u g, i < n → LL[i]? = some M → vs[i]? = some u → 0 < M.length → u.ownBlock = some g → g < lo) : Fam w base (n + 1) (vs ++ [d]) (LL ++ [D]) := by
  subst hn
  have h' : Fam w base LL.length vs (LL ++ [D]) := by
    refine ⟨fun i L hi hL => ?_, fun i i' v u L L' g hi hi' hne hv hu hL hL' => ?_⟩
    · rw [List.getElem?_append_left hi] at hL
      exact h.1 i L hi hL
    · rw [List.getElem?_append_left hi] at hL
      rw [List.getElem?_append_left hi'] at hL'
      exact h.2 i i' v u L L' g hi hi' hne hv hu hL hL'
  refine Fam.more (lo := lo) (v := d) (L := D) h' (by simp) (by rw [List.getElem?_append_right (by omega), hv]; simp) (fun i hi => List.getElem?_append_left (by omega)) ho hnew ?_
  intro i M u g hi hM hu hl hg
  rw [List.getElem?_append_left hi] at hM
  exact hold i M u g hi hM hu hl hg

theorem eqi_draws (A B : Option Addr) (c d : Nat) (zs : List Int) (w : World) (h : Ints w A zs) (h2 : Ints w B zs) (hn : zs.length ≤ 1099511627776) :
    Calls Tryz.prog 11 #[.slice A zs.length c, .slice B zs.length d] w fun e w' => e = .returned (.bool true) ∧ ∃ m, w' = w.drewN m := by
  have HS := Lib.hid h
  have HS2 := Lib.hid h2
  obtain ⟨n, hnn⟩ : ∃ n, zs.length = n := ⟨_, rfl⟩
  have HN := Lib.hid hnn
  rw [hnn] at hn ⊢
  clear h h2 hnn
  have hnn : ((n : Int) != (n : Int)) = false := by simp
  go_enter Tryz.func11, Tryz.ntmps11
  go_wp2_with fail
  clear hnn
  go_loopw [5] (fun i wr => ∃ j : Nat, j ≤ n ∧ i = .int .i64 j ∧ Hid (∃ m, wr = w.drewN m)) (fun i _ => n - (intOf i).toNat)
  case atStart => exact ⟨0, Nat.zero_le _, rfl, Lib.hid ⟨0, rfl⟩⟩
  case round =>
    obtain ⟨j, hj, rfl, hgr⟩ := hrel
    have hgr2 : w.grownBy wr none := by obtain ⟨m, rfl⟩ := hgr.out; exact gr_drewN _ _ _
    have HGR := Lib.hid hgr2
    clear hgr2
    by_cases hlt : j < n
    · have hjz : j < zs.length := by have := HN.out; omega
      obtain ⟨b, off, rfl, hcell⟩ := (HS.out.grown HGR.out (by simp)).at_ hjz
      obtain ⟨b2, off2, rfl, hcell2⟩ := (HS2.out.grown HGR.out (by simp)).at_ hjz
      generalize zs[j] = z at hcell hcell2
      have hj0 : (0 : Int) ≤ (j : Int) := by omega
      have hj1 : (j : Int) < (n : Int) := by omega
      have hzz : (z != z) = false := by simp
      go_wp2_with fail
      go_quiet (fail)
      go_wp2_with fail
      go_roundw
      case rel => exact ⟨j + 1, by omega, by go_num, Lib.hid (by obtain ⟨m, rfl⟩ := hgr.out; exact ⟨m + _, World.drewN_drewN _ _ _⟩)⟩
      case measure => simp [intOf]; omega
    · go_wp2_with fail
      go_ret
      exact ⟨rfl, hgr.out⟩
end

end Go.Proofs.YtachjodnhgmoiaaGreatDoor
