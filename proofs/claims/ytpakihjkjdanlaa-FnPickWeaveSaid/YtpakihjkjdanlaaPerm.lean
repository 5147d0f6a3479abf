/- Plain facts: where indices stand, numbers put at indices, permutations. Nothing of the program. -/
import Derived.Test.YtpakihjkjdanlaaSeg
namespace Go.Proofs.Ytpakihjkjdanlaa

/-- Where each index stands (the last place), after the first places of a list; -1 where none does. -/
def invTo (P : List Int) : Nat → List Int
  | 0 => List.replicate 400 (-1)
  | k + 1 => if P.getD k (-1) = -1 then invTo P k else (invTo P k).set (P.getD k (-1)).toNat (k : Int)
def invL (P : List Int) : List Int := invTo P 400
/-- A list as an array of 400: -1 behind it. -/
def padL (A : List Int) : List Int := A ++ List.replicate (400 - A.length) (-1)
def Ok400 (P : List Int) : Prop := P.length = 400 ∧ ∀ (k : Nat) (x : Int), P[k]? = some x → x = -1 ∨ (0 ≤ x ∧ x < 400)
def Inj (P : List Int) : Prop := ∀ (k l i : Nat), P[k]? = some (i : Int) → P[l]? = some (i : Int) → k = l

theorem invTo_len (P : List Int) : ∀ j, (invTo P j).length = 400
  | 0 => by rw [invTo, List.length_replicate]
  | k + 1 => by
    unfold invTo
    split
    · exact invTo_len P k
    · rw [List.length_set]; exact invTo_len P k
theorem getD_some {P : List Int} {k : Nat} {x d : Int} (h : P[k]? = some x) : P.getD k d = x := by rw [List.getD_eq_getElem?_getD, h]; rfl
theorem invTo_sound (P : List Int) (hP : Ok400 P) : ∀ (j : Nat), j ≤ 400 → ∀ (i : Nat) (x : Int), (invTo P j)[i]? = some x → x = -1 ∨ ∃ k : Nat, k < j ∧ x = (k : Int) ∧ P[k]? = some (i : Int)
  | 0, _, i, x, h => by
    simp only [invTo, List.getElem?_replicate] at h
    split at h
    · exact .inl (by simpa using h.symm)
    · cases h
  | j + 1, hj, i, x, h => by
    have hk : P[j]? = some (P[j]'(by have := hP.1; omega)) := List.getElem?_eq_getElem _
    obtain ⟨y, hy⟩ : ∃ y, P[j]'(by have := hP.1; omega) = y := ⟨_, rfl⟩
    rw [hy] at hk
    have hd := getD_some (d := -1) hk
    unfold invTo at h
    rw [hd] at h
    have old : ∀ (i : Nat) (x : Int), (invTo P j)[i]? = some x → x = -1 ∨ ∃ k : Nat, k < j + 1 ∧ x = (k : Int) ∧ P[k]? = some (i : Int) := fun i x h => by
      rcases invTo_sound P hP j (by omega) i x h with h | ⟨k, h1, h2, h3⟩
      · exact .inl h
      · exact .inr ⟨k, by omega, h2, h3⟩
    by_cases hn : y = -1
    · rw [if_pos hn] at h
      exact old i x h
    · rw [if_neg hn] at h
      rw [List.getElem?_set] at h
      split at h
      · rename_i he
        have h0 := hP.2 j y hk
        split at h
        · refine .inr ⟨j, by omega, by simpa using h.symm, ?_⟩
          rw [hk, ← he]
          congr 1
          omega
        · cases h
      · exact old i x h
theorem invTo_full (P : List Int) (hP : Ok400 P) : ∀ (j : Nat), j ≤ 400 → ∀ (k i : Nat), k < j → P[k]? = some (i : Int) → ∃ x, (invTo P j)[i]? = some x ∧ x ≠ -1
  | 0, _, k, i, h, _ => by omega
  | j + 1, hj, k, i, h, hki => by
    have hk : P[j]? = some (P[j]'(by have := hP.1; omega)) := List.getElem?_eq_getElem _
    obtain ⟨y, hy⟩ : ∃ y, P[j]'(by have := hP.1; omega) = y := ⟨_, rfl⟩
    rw [hy] at hk
    have hd := getD_some (d := -1) hk
    have hi := hP.2 k i hki
    unfold invTo
    rw [hd]
    by_cases hn : y = -1
    · rw [if_pos hn]
      rcases Nat.lt_or_ge k j with hkj | hkj
      · exact invTo_full P hP j (by omega) k i hkj hki
      · obtain rfl : k = j := by omega
        rw [hki] at hk
        simp only [Option.some.injEq] at hk
        omega
    · rw [if_neg hn, List.getElem?_set]
      split
      · rename_i he
        rw [if_pos (by rw [invTo_len]; omega)]
        exact ⟨_, rfl, by omega⟩
      · rename_i he
        rcases Nat.lt_or_ge k j with hkj | hkj
        · exact invTo_full P hP j (by omega) k i hkj hki
        · obtain rfl : k = j := by omega
          rw [hki] at hk
          simp only [Option.some.injEq] at hk
          exact absurd (by omega) he
theorem invL_ok {P : List Int} (hP : Ok400 P) : Ok400 (invL P) :=
  ⟨invTo_len P 400, fun k x h => by
    rcases invTo_sound P hP 400 (by omega) k x h with h | ⟨j, h1, h2, _⟩
    · exact .inl h
    · exact .inr (by omega)⟩
theorem invL_sound {P : List Int} (hP : Ok400 P) {i k : Nat} (h : (invL P)[i]? = some (k : Int)) : P[k]? = some (i : Int) := by
  rcases invTo_sound P hP 400 (by omega) i k h with h | ⟨j, h1, h2, h3⟩
  · omega
  · obtain rfl : k = j := by omega
    exact h3
theorem invL_full {P : List Int} (hP : Ok400 P) {i k : Nat} (h : P[k]? = some (i : Int)) : ∃ l : Nat, (invL P)[i]? = some (l : Int) := by
  have hk : k < 400 := by have := (List.getElem?_eq_some_iff.1 h).1; have := hP.1; omega
  obtain ⟨x, h1, h2⟩ := invTo_full P hP 400 (by omega) k i hk h
  rcases (invL_ok hP).2 i x h1 with h | ⟨h, _⟩
  · exact absurd h h2
  · exact ⟨x.toNat, by rw [show ((x.toNat : Nat) : Int) = x from by omega]; exact h1⟩
theorem invL_inj {P : List Int} (hP : Ok400 P) (hI : Inj P) {i k : Nat} (h : P[k]? = some (i : Int)) : (invL P)[i]? = some (k : Int) := by
  obtain ⟨l, hl⟩ := invL_full hP h
  have := hI l k i (invL_sound hP hl) h
  rw [← this]; exact hl
theorem ok_eq {P Q : List Int} (hP : Ok400 P) (hQ : Ok400 Q) (h1 : ∀ (k i : Nat), P[k]? = some (i : Int) → Q[k]? = some (i : Int)) (h2 : ∀ (k i : Nat), Q[k]? = some (i : Int) → P[k]? = some (i : Int)) : P = Q := by
  refine List.ext_getElem? fun k => ?_
  rcases Nat.lt_or_ge k 400 with hk | hk
  · have e1 : P[k]? = some (P[k]'(by have := hP.1; omega)) := List.getElem?_eq_getElem _
    have e2 : Q[k]? = some (Q[k]'(by have := hQ.1; omega)) := List.getElem?_eq_getElem _
    rcases hP.2 k _ e1 with a | ⟨a, _⟩
    · rcases hQ.2 k _ e2 with b | ⟨b, _⟩
      · rw [e1, e2, a, b]
      · have := h2 k (Q[k]'(by have := hQ.1; omega)).toNat (by rw [e2]; congr 1; omega)
        rw [this, e2]; congr 1; omega
    · have := h1 k (P[k]'(by have := hP.1; omega)).toNat (by rw [e1]; congr 1; omega)
      rw [this, e1]; congr 1; omega
  · rw [List.getElem?_eq_none (by have := hP.1; omega), List.getElem?_eq_none (by have := hQ.1; omega)]
theorem inv_inv {P : List Int} (hP : Ok400 P) (hI : Inj P) : invL (invL P) = P := by
  have hQ := invL_ok hP
  refine ok_eq (invL_ok hQ) hP (fun k i h => invL_sound hP (invL_sound hQ h)) (fun k i h => ?_)
  have hi := invL_inj hP hI h
  obtain ⟨l, hl⟩ := invL_full hQ hi
  have := invL_sound hP (invL_sound hQ hl)
  rw [h] at this
  simp only [Option.some.injEq] at this
  rw [hl, this]
theorem inv_inj {P : List Int} (hP : Ok400 P) (h : invL (invL P) = P) : Inj P := by
  have hQ := invL_ok hP
  intro k l i h1 h2
  have e1 := invL_sound hQ (i := k) (k := i) (by rw [h]; exact h1)
  have e2 := invL_sound hQ (i := l) (k := i) (by rw [h]; exact h2)
  rw [e1] at e2
  simp only [Option.some.injEq] at e2
  omega

/-- No more different numbers than there are. -/
theorem holes : ∀ (n : Nat) (A : List Int), A.Nodup → (∀ x ∈ A, 0 ≤ x ∧ x < (n : Int)) → A.length ≤ n
  | 0, A, _, h => by
    cases A with
    | nil => simp
    | cons x A => have := h x (by simp); omega
  | n + 1, A, hA, h => by
    have h1 := holes n (A.erase (n : Int)) (hA.erase _) (fun x hx => by
      rw [hA.mem_erase_iff] at hx
      have := h x hx.2
      omega)
    have := List.length_erase_le (a := (n : Int)) (l := A)
    have h2 : A.length - 1 ≤ (A.erase (n : Int)).length := by rw [List.length_erase]; split <;> omega
    omega
theorem onto {n : Nat} {A : List Int} (hA : A.Nodup) (h : ∀ x ∈ A, 0 ≤ x ∧ x < (n : Int)) (hn : A.length = n) {i : Nat} (hi : i < n) : ∃ k : Nat, k < n ∧ A[k]? = some (i : Int) := by
  have hm : (i : Int) ∈ A := by
    refine Classical.byContradiction fun hne => ?_
    have := holes n ((i : Int) :: A) (List.nodup_cons.2 ⟨hne, hA⟩) (fun x hx => by
      rcases List.mem_cons.1 hx with rfl | hx
      · omega
      · exact h x hx)
    simp only [List.length_cons] at this
    omega
  obtain ⟨k, hk, e⟩ := List.mem_iff_getElem.1 hm
  exact ⟨k, by omega, by rw [List.getElem?_eq_getElem hk, e]⟩
theorem nodup_inj {A : List Int} (hA : A.Nodup) {k l : Nat} {x : Int} (h1 : A[k]? = some x) (h2 : A[l]? = some x) : k = l := by
  obtain ⟨a, ha⟩ := List.getElem?_eq_some_iff.1 h1
  obtain ⟨b, hb⟩ := List.getElem?_eq_some_iff.1 h2
  exact (List.getElem_inj hA).1 (ha.trans hb.symm)
theorem inj_nodup {A : List Int} (h : ∀ (k l : Nat) (x : Int), A[k]? = some x → A[l]? = some x → k = l) : A.Nodup := by
  rw [List.nodup_iff_pairwise_ne, List.pairwise_iff_getElem]
  intro i j hi hj hij e
  have := h i j A[i] (List.getElem?_eq_getElem hi) (by rw [List.getElem?_eq_getElem hj, e])
  omega
theorem pad_at {A : List Int} {k i : Nat} (h : (padL A)[k]? = some (i : Int)) : A[k]? = some (i : Int) := by
  unfold padL at h
  rw [List.getElem?_append] at h
  split at h
  · exact h
  · rw [List.getElem?_replicate] at h
    split at h
    · simp only [Option.some.injEq] at h; omega
    · cases h
theorem at_pad {A : List Int} {k : Nat} {x : Int} (h : A[k]? = some x) : (padL A)[k]? = some x := by
  unfold padL
  rw [List.getElem?_append_left (List.getElem?_eq_some_iff.1 h).1]
  exact h
theorem pad_ok {A : List Int} (hl : A.length ≤ 400) (h : ∀ x ∈ A, 0 ≤ x ∧ x < 400) : Ok400 (padL A) := by
  refine ⟨by simp [padL]; omega, fun k x hx => ?_⟩
  unfold padL at hx
  rw [List.getElem?_append] at hx
  split at hx
  · exact .inr (h x (List.mem_of_getElem? hx))
  · rw [List.getElem?_replicate] at hx
    split at hx
    · exact .inl (by simpa using hx.symm)
    · cases hx
theorem pad_inj {A : List Int} (h : ∀ x ∈ A, 0 ≤ x) : Inj (padL A) ↔ A.Nodup := by
  constructor
  · intro hI
    refine inj_nodup fun k l x h1 h2 => ?_
    have h0 := h x (List.mem_of_getElem? h1)
    refine hI k l x.toNat ?_ ?_
    · rw [show ((x.toNat : Nat) : Int) = x from by omega]; exact at_pad h1
    · rw [show ((x.toNat : Nat) : Int) = x from by omega]; exact at_pad h2
  · intro hA k l i h1 h2
    exact nodup_inj hA (pad_at h1) (pad_at h2)

/-- Numbers put at indices, after the first ones. -/
def putTo (n : Nat) (A D : List Int) : Nat → List Int
  | 0 => List.replicate n 0
  | k + 1 => (putTo n A D k).set (A.getD k 0).toNat (D.getD k 0)
theorem putTo_len (n : Nat) (A D : List Int) : ∀ j, (putTo n A D j).length = n
  | 0 => by simp [putTo]
  | j + 1 => by rw [putTo, List.length_set]; exact putTo_len n A D j
theorem putTo_at {n : Nat} {A D : List Int} (hA : A.Nodup) (h : ∀ x ∈ A, 0 ≤ x ∧ x < (n : Int)) : ∀ (j : Nat), j ≤ A.length → ∀ (k i : Nat), k < j → A[k]? = some (i : Int) → (putTo n A D j)[i]? = some (D.getD k 0)
  | 0, _, k, i, hk, _ => by omega
  | j + 1, hj, k, i, hk, hki => by
    have hjj : A[j]? = some (A[j]'(by omega)) := List.getElem?_eq_getElem _
    obtain ⟨y, hy⟩ : ∃ y, A[j]'(by omega) = y := ⟨_, rfl⟩
    rw [hy] at hjj
    have hb := h y (List.mem_of_getElem? hjj)
    rw [putTo, getD_some hjj, List.getElem?_set]
    split
    · rename_i he
      have : k = j := nodup_inj hA hki (by rw [hjj]; congr 1; omega)
      subst this
      rw [if_pos (by rw [putTo_len]; omega)]
    · rename_i he
      rcases Nat.lt_or_ge k j with hkj | hkj
      · exact putTo_at hA h j (by omega) k i hkj hki
      · obtain rfl : k = j := by omega
        rw [hki] at hjj
        simp only [Option.some.injEq] at hjj
        exact absurd (by omega) he
/-- What is put at all indices, each once, is known by where it stands. -/
theorem put_eq {n : Nat} {A D G : List Int} (hA : A.Nodup) (h : ∀ x ∈ A, 0 ≤ x ∧ x < (n : Int)) (hn : A.length = n) (hG : G.length = n) (hat : ∀ (k i : Nat), A[k]? = some (i : Int) → G[i]? = some (D.getD k 0)) : putTo n A D n = G := by
  refine List.ext_getElem? fun i => ?_
  rcases Nat.lt_or_ge i n with hi | hi
  · obtain ⟨k, hk, hki⟩ := onto hA h hn hi
    rw [putTo_at hA h n (by omega) k i hk hki, hat k i hki]
  · rw [List.getElem?_eq_none (by rw [putTo_len]; omega), List.getElem?_eq_none (by omega)]


/-! ### What gathering, scattering and inverting give -/
def idxB (n : Nat) (A : List Int) : Bool := decide (A.length ≤ 400) && okN ((n : Int) - 1) A
def dataB (D : List Int) : Bool := decide (D.length ≤ 400) && okN 10006 D
def pickI (D A : List Int) : List Int := A.map fun i => D.getD i.toNat 0
def gatherB (D A : List Int) : Bool := dataB D && idxB D.length A
def gatherR (D A : List Int) : List Int := if gatherB D A = true then pickI D A else []
def permB (A : List Int) : Bool := idxB A.length A && decide A.Nodup
def invI (A : List Int) : List Int := (invL (padL A)).take A.length
def invR (A : List Int) : List Int := if permB A = true then invI A else []
def scatB (D A : List Int) : Bool := permB A && (dataB D && decide (D.length = A.length))
def scatR (D A : List Int) : List Int := if scatB D A = true then pickI D (invI A) else []

theorem okN_all {hi : Int} : ∀ {l : List Int}, (∀ x ∈ l, 0 ≤ x ∧ x ≤ hi) → okN hi l = true
  | [], _ => rfl
  | z :: l, h => by
    simp only [okN, Bool.and_eq_true, decide_eq_true_eq]
    exact ⟨h z (by simp), okN_all (fun x hx => h x (by simp [hx]))⟩
theorem idxB_get {n : Nat} {A : List Int} (h : idxB n A = true) : A.length ≤ 400 ∧ okN ((n : Int) - 1) A = true ∧ ∀ x ∈ A, 0 ≤ x ∧ x < (n : Int) := by
  simp only [idxB, Bool.and_eq_true, decide_eq_true_eq] at h
  refine ⟨h.1, h.2, fun x hx => ?_⟩
  obtain ⟨k, hk, e⟩ := List.mem_iff_getElem.1 hx
  have := okN_at (List.getElem?_eq_getElem hk) h.2
  omega
theorem dataB_get {D : List Int} (h : dataB D = true) : D.length ≤ 400 ∧ okN 10006 D = true := by
  simp only [dataB, Bool.and_eq_true, decide_eq_true_eq] at h
  exact h
theorem gatherB_get {D A : List Int} (h : gatherB D A = true) : dataB D = true ∧ idxB D.length A = true := by
  simp only [gatherB, Bool.and_eq_true] at h
  exact h
theorem permB_get {A : List Int} (h : permB A = true) : idxB A.length A = true ∧ A.Nodup := by
  simp only [permB, Bool.and_eq_true, decide_eq_true_eq] at h
  exact h
theorem scatB_get {D A : List Int} (h : scatB D A = true) : permB A = true ∧ dataB D = true ∧ D.length = A.length := by
  simp only [scatB, Bool.and_eq_true, decide_eq_true_eq] at h
  exact h
theorem pickI_len (D A : List Int) : (pickI D A).length = A.length := by simp [pickI]
theorem pad_okB {A : List Int} (h : idxB A.length A = true) : Ok400 (padL A) := by
  obtain ⟨h1, _, h3⟩ := idxB_get h
  exact pad_ok h1 (fun x hx => by have := h3 x hx; omega)
/-- Told twice, exactly a permutation is itself. -/
theorem perm_iff {A : List Int} (h : idxB A.length A = true) : permB A = decide (invL (invL (padL A)) = padL A) := by
  obtain ⟨h1, _, h3⟩ := idxB_get h
  have hp := pad_okB h
  have hj := pad_inj (A := A) (fun x hx => (h3 x hx).1)
  rw [permB, h, Bool.true_and, Bool.eq_iff_iff, decide_eq_true_iff, decide_eq_true_iff]
  exact ⟨fun hn => inv_inv hp (hj.2 hn), fun he => hj.1 (inv_inj hp he)⟩
theorem invI_len {A : List Int} (h : A.length ≤ 400) : (invI A).length = A.length := by
  rw [invI, List.length_take, invL, invTo_len]; omega
theorem invI_at {A : List Int} (h : permB A = true) {k i : Nat} (hk : A[k]? = some (i : Int)) : (invI A)[i]? = some (k : Int) := by
  obtain ⟨h1, h2⟩ := permB_get h
  obtain ⟨_, _, h3⟩ := idxB_get h1
  have hi := (h3 i (List.mem_of_getElem? hk)).2
  rw [invI, List.getElem?_take, if_pos (by omega)]
  exact invL_inj (pad_okB h1) ((pad_inj (fun x hx => (h3 x hx).1)).2 h2) (at_pad hk)
theorem scat_put {D A : List Int} (h : permB A = true) : putTo A.length A D A.length = pickI D (invI A) := by
  obtain ⟨h1, h2⟩ := permB_get h
  obtain ⟨h4, _, h3⟩ := idxB_get h1
  refine put_eq h2 h3 rfl (by rw [pickI_len, invI_len h4]) (fun k i hk => ?_)
  rw [pickI, List.getElem?_map, invI_at h hk]
  simp
theorem inv_put {A : List Int} (h : permB A = true) : putTo A.length A ((List.range A.length).map fun (k : Nat) => (k : Int)) A.length = invI A := by
  obtain ⟨h1, h2⟩ := permB_get h
  obtain ⟨h4, _, h3⟩ := idxB_get h1
  refine put_eq h2 h3 rfl (invI_len h4) (fun k i hk => ?_)
  rw [invI_at h hk]
  have hkl := (List.getElem?_eq_some_iff.1 hk).1
  rw [getD_some (x := (k : Int)) (by simp [hkl])]
theorem invI_perm {A : List Int} (h : permB A = true) : idxB A.length (invI A) = true ∧ (invI A).length = A.length := by
  obtain ⟨h1, h2⟩ := permB_get h
  obtain ⟨h4, _, h3⟩ := idxB_get h1
  have hl := invI_len h4
  refine ⟨?_, hl⟩
  have hm : ∀ x ∈ invI A, 0 ≤ x ∧ x < (A.length : Int) := fun x hx => by
    obtain ⟨i, hi, e⟩ := List.mem_iff_getElem.1 hx
    obtain ⟨k, hk, hki⟩ := onto h2 h3 rfl (show i < A.length by omega)
    have := invI_at h hki
    rw [List.getElem?_eq_getElem hi, e] at this
    simp only [Option.some.injEq] at this
    omega
  simp only [idxB, Bool.and_eq_true, decide_eq_true_eq]
  exact ⟨by omega, okN_all (fun x hx => by have := hm x hx; omega)⟩

end Go.Proofs.Ytpakihjkjdanlaa
