/- Plain facts: greatest and least numbers, levels whose lengths are all the same, shapes. Nothing of the program. -/
import Derived.Test.YtachjodnhgmoiaaLevels
namespace Go.Proofs.Ytachjodnhgmoiaa

/-- The first length of a level, 0 for none. -/
def hdI (L : List Int) : Int := L.headD 0
def evenL (L : List Int) : Bool := L.all (fun z => z == hdI L)
def evenLL (LL : List (List Int)) : Bool := LL.all evenL
def maxI : List Int → Int
  | [] => 0
  | z :: l => l.foldl max z
def minI : List Int → Int
  | [] => 0
  | z :: l => l.foldl min z

theorem le_maxI : ∀ (l : List Int) (z : Int), z ≤ l.foldl max z ∧ ∀ x ∈ l, x ≤ l.foldl max z
  | [], z => ⟨Int.le_refl _, fun x hx => by cases hx⟩
  | y :: l, z => by
    obtain ⟨h1, h2⟩ := le_maxI l (max z y)
    simp only [List.foldl_cons]
    refine ⟨by omega, fun x hx => ?_⟩
    rcases List.mem_cons.1 hx with h | h
    · subst h; omega
    · exact h2 x h
theorem minI_le : ∀ (l : List Int) (z : Int), l.foldl min z ≤ z ∧ ∀ x ∈ l, l.foldl min z ≤ x
  | [], z => ⟨Int.le_refl _, fun x hx => by cases hx⟩
  | y :: l, z => by
    obtain ⟨h1, h2⟩ := minI_le l (min z y)
    simp only [List.foldl_cons]
    refine ⟨by omega, fun x hx => ?_⟩
    rcases List.mem_cons.1 hx with h | h
    · subst h; omega
    · exact h2 x h
theorem maxI_all : ∀ (l : List Int) (z : Int), (∀ x ∈ l, x = z) → l.foldl max z = z
  | [], z, _ => rfl
  | y :: l, z, h => by
    have h1 := h y (by simp)
    subst h1
    simp only [List.foldl_cons]
    rw [show max y y = y by omega]
    exact maxI_all l y (fun x hx => h x (by simp [hx]))
theorem minI_all : ∀ (l : List Int) (z : Int), (∀ x ∈ l, x = z) → l.foldl min z = z
  | [], z, _ => rfl
  | y :: l, z, h => by
    have h1 := h y (by simp)
    subst h1
    simp only [List.foldl_cons]
    rw [show min y y = y by omega]
    exact minI_all l y (fun x hx => h x (by simp [hx]))
theorem even_max {L : List Int} (h : evenL L = true) : maxI L = hdI L := by
  cases L with
  | nil => rfl
  | cons z l =>
    have h1 : ∀ x ∈ l, x = z := fun x hx => by
      have := List.all_eq_true.1 h x (by simp [hx])
      simpa [hdI] using this
    exact maxI_all l z h1
theorem even_min {L : List Int} (h : evenL L = true) : minI L = hdI L := by
  cases L with
  | nil => rfl
  | cons z l =>
    have h1 : ∀ x ∈ l, x = z := fun x hx => by
      have := List.all_eq_true.1 h x (by simp [hx])
      simpa [hdI] using this
    exact minI_all l z h1
theorem even_iff (L : List Int) : maxI L = minI L ↔ evenL L = true := by
  refine ⟨fun h => ?_, fun h => (even_max h).trans (even_min h).symm⟩
  cases L with
  | nil => rfl
  | cons z l =>
    have h1 := le_maxI l z
    have h2 := minI_le l z
    simp only [maxI, minI] at h
    refine List.all_eq_true.2 fun x hx => ?_
    show (x == z) = true
    rcases List.mem_cons.1 hx with e | e
    · simp [e]
    · have h3 := h1.2 x e
      have h4 := h2.2 x e
      have h5 := h1.1
      have h6 := h2.1
      rw [beq_iff_eq]
      omega
theorem maxI_step {L : List Int} {i : Nat} {z : Int} (hi : 0 < i) (h : L[i]? = some z) : maxI (L.take (i + 1)) = max (maxI (L.take i)) z := by
  rw [List.take_add_one, h]
  cases L with
  | nil => simp at h
  | cons y l =>
    obtain ⟨k, rfl⟩ : ∃ k, i = k + 1 := ⟨i - 1, by omega⟩
    simp [maxI, List.foldl_append]
theorem minI_step {L : List Int} {i : Nat} {z : Int} (hi : 0 < i) (h : L[i]? = some z) : minI (L.take (i + 1)) = min (minI (L.take i)) z := by
  rw [List.take_add_one, h]
  cases L with
  | nil => simp at h
  | cons y l =>
    obtain ⟨k, rfl⟩ : ∃ k, i = k + 1 := ⟨i - 1, by omega⟩
    simp [minI, List.foldl_append]
theorem max_even_all {LL : List (List Int)} : LL.map maxI = LL.map minI ↔ evenLL LL = true := by
  induction LL with
  | nil => simp [evenLL]
  | cons L LL ih =>
    have h1 := even_iff L
    simp only [List.map_cons, List.cons.injEq, evenLL, List.all_cons, Bool.and_eq_true] at ih ⊢
    rw [h1, ih]
theorem max_hd {LL : List (List Int)} (h : evenLL LL = true) : LL.map maxI = LL.map hdI := by
  refine List.map_congr_left fun L hL => even_max (List.all_eq_true.1 h L hL)

/-- The shape of a layout: nothing if a level's lengths are not the same. -/
def shR (LL : List (List Int)) : List Int := if evenLL LL = true then LL.map hdI else []
/-- An array of three ints. -/
def pad3 (zs : List Int) : List Int := zs ++ List.replicate (3 - zs.length) 0
theorem pad3_len {zs : List Int} (h : zs.length ≤ 3) : (pad3 zs).length = 3 := by simp [pad3]; omega
theorem pad3_inj {xs ys : List Int} (hl : xs.length = ys.length) (h : pad3 xs = pad3 ys) : xs = ys := by
  unfold pad3 at h
  exact (List.append_inj h hl).1
theorem pad3_set {zs : List Int} {z : Int} (h : zs.length < 3) : (pad3 zs).set zs.length z = pad3 (zs ++ [z]) := by
  unfold pad3
  rw [List.set_append_right _ _ (Nat.le_refl _), Nat.sub_self]
  obtain ⟨k, hk⟩ : ∃ k, 3 - zs.length = k + 1 := ⟨2 - zs.length, by omega⟩
  have hk2 : 3 - (zs ++ [z]).length = k := by simp; omega
  rw [hk, hk2]
  simp [List.replicate_succ]

end Go.Proofs.Ytachjodnhgmoiaa
