/- Plain facts: the first of several arrays, which lie one behind another on all levels; and slices of ints below a bound. -/
import Derived.Test.YtdfanconjiiceaaAside
import Derived.Test.YtdfanconjiiceaaOwnI
import Derived.Test.YtdfanconjiiceaaFam
namespace Go.Proofs.Ytdfanconjiiceaa
open Go.RowKit

def cutP : Nat → List (List Int) → List (List Int)
  | _, [] => []
  | c, L :: LL => L.take c :: cutP (sumI (L.take c)).toNat LL
def cutR : Nat → List (List Int) → List (List Int)
  | _, [] => []
  | c, L :: LL => L.drop c :: cutR (sumI (L.take c)).toNat LL
/-- How many numbers the first array has on the level behind these. -/
def cntE : Nat → List (List Int) → Nat
  | c, [] => c
  | c, L :: LL => cntE (sumI (L.take c)).toNat LL
theorem cntE_step : ∀ (LL : List (List Int)) (c j : Nat) (L : List Int), LL[j]? = some L → cntE c (LL.take (j + 1)) = (sumI (L.take (cntE c (LL.take j)))).toNat
  | [], _, _, _, h => by simp at h
  | M :: LL, c, 0, L, h => by
    simp only [List.getElem?_cons_zero, Option.some.injEq] at h
    subst h
    simp [cntE]
  | M :: LL, c, j + 1, L, h => by
    have := cntE_step LL (sumI (M.take c)).toNat j L (by simpa using h)
    simpa [cntE] using this
theorem cutP_at : ∀ (LL : List (List Int)) (c j : Nat) (L : List Int), LL[j]? = some L → (cutP c LL)[j]? = some (L.take (cntE c (LL.take j)))
  | [], _, _, _, h => by simp at h
  | M :: LL, c, 0, L, h => by
    simp only [List.getElem?_cons_zero, Option.some.injEq] at h
    subst h
    simp [cntE, cutP]
  | M :: LL, c, j + 1, L, h => by
    have := cutP_at LL (sumI (M.take c)).toNat j L (by simpa using h)
    simpa [cntE, cutP] using this
theorem cutR_at : ∀ (LL : List (List Int)) (c j : Nat) (L : List Int), LL[j]? = some L → (cutR c LL)[j]? = some (L.drop (cntE c (LL.take j)))
  | [], _, _, _, h => by simp at h
  | M :: LL, c, 0, L, h => by
    simp only [List.getElem?_cons_zero, Option.some.injEq] at h
    subst h
    simp [cntE, cutR]
  | M :: LL, c, j + 1, L, h => by
    have := cutR_at LL (sumI (M.take c)).toNat j L (by simpa using h)
    simpa [cntE, cutR] using this
theorem cutP_len : ∀ (LL : List (List Int)) (c : Nat), (cutP c LL).length = LL.length
  | [], _ => rfl
  | M :: LL, c => by simp [cutP, cutP_len LL]
theorem cutR_len : ∀ (LL : List (List Int)) (c : Nat), (cutR c LL).length = LL.length
  | [], _ => rfl
  | M :: LL, c => by simp [cutR, cutR_len LL]

/-- A slice of ints that lie below block B. -/
def SlB (B : Nat) (w : World) (v : Value) (zs : List Int) : Prop :=
  ∃ A c, v = .slice A zs.length c ∧ zs.length ≤ c ∧ (A = none → c = 0) ∧ ∀ a, A = some a → ∃ b off, a = ⟨b, off, none⟩ ∧ b < B ∧ b < w.heap.size ∧ ∀ (j : Nat) (z : Int), zs[j]? = some z → w.cell? ⟨b, off + j, none⟩ = some (.int .i64 z)
theorem SlB.ints {B : Nat} {w : World} {A : Option Addr} {n c : Nat} {zs : List Int} (h : SlB B w (.slice A n c) zs) : n = zs.length ∧ zs.length ≤ c ∧ Ints w A zs ∧ (A = none → c = 0) := by
  obtain ⟨A', c', hv, h1, h2, h3⟩ := h
  cases hv
  refine ⟨rfl, h1, fun hl => ?_, h2⟩
  cases A with
  | none => have := h2 rfl; omega
  | some a =>
    obtain ⟨b, off, rfl, _, hb, hc⟩ := h3 a rfl
    exact ⟨b, off, rfl, hb, hc⟩
/-- What lies below block B lies as it lay. -/
def LowK (B : Nat) (w w' : World) : Prop := w.heap.size ≤ w'.heap.size ∧ ∀ k, k < B → k < w.heap.size → w'.heap[k]? = w.heap[k]?
theorem LowK.refl (B : Nat) (w : World) : LowK B w w := ⟨Nat.le_refl _, fun _ _ _ => rfl⟩
theorem LowK.trans {B : Nat} {w w1 w2 : World} (h : LowK B w w1) (h2 : LowK B w1 w2) : LowK B w w2 := ⟨Nat.le_trans h.1 h2.1, fun k hk hw => (h2.2 k hk (Nat.lt_of_lt_of_le hw h.1)).trans (h.2 k hk hw)⟩
theorem LowK.of {B : Nat} {w w' : World} {row : Option Nat} (h : w.grownBy w' row) (hr : ∀ k, row = some k → B ≤ k) : LowK B w w' := ⟨h.size, fun k hk hw => h.block k hw (fun e => by have := hr k e.symm; omega)⟩
theorem SlB.low {B : Nat} {w w' : World} {v : Value} {zs : List Int} (h : SlB B w v zs) (hk : LowK B w w') : SlB B w' v zs := by
  obtain ⟨A, c, rfl, h1, h2, h3⟩ := h
  refine ⟨A, c, rfl, h1, h2, fun a ha => ?_⟩
  obtain ⟨b, off, rfl, hB, hb, hc⟩ := h3 a ha
  refine ⟨b, off, rfl, hB, Nat.lt_of_lt_of_le hb hk.1, fun j z hj => ?_⟩
  have := hc j z hj
  simp only [World.cell?, hk.2 b hB hb] at this ⊢
  exact this
/-- But for two blocks, what lies below a block lies as it lay. -/
structure KpX (g gR base : Nat) (w w' : World) : Prop where
  os : w'.os = w.os
  tape : w'.tape = w.tape
  output : w'.output = w.output
  size : w.heap.size ≤ w'.heap.size
  block : ∀ k, k ≠ g → k ≠ gR → k < base → w'.heap[k]? = w.heap[k]?
theorem KpX.refl (g gR base : Nat) (w : World) : KpX g gR base w w := ⟨rfl, rfl, rfl, Nat.le_refl _, fun _ _ _ _ => rfl⟩
theorem KpX.trans {g gR base : Nat} {w w1 w2 : World} (h : KpX g gR base w w1) (h2 : KpX g gR base w1 w2) : KpX g gR base w w2 :=
  ⟨h2.os.trans h.os, h2.tape.trans h.tape, h2.output.trans h.output, Nat.le_trans h.size h2.size, fun k h3 h4 h5 => (h2.block k h3 h4 h5).trans (h.block k h3 h4 h5)⟩
theorem KpX.of {g gR base : Nat} {w w' : World} {row : Option Nat} (h : w.grownBy w' row) (hr : ∀ k, row = some k → k = g ∨ k = gR ∨ base ≤ k) (hb : base ≤ w.heap.size) : KpX g gR base w w' :=
  ⟨h.os, h.tape, h.output, h.size, fun k h3 h4 h5 => h.block k (Nat.lt_of_lt_of_le h5 hb) (fun e => by rcases hr k e.symm with h | h | h <;> omega)⟩
/-- The first numbers, without room behind them. -/
theorem SlB.front {B : Nat} {w : World} {A : Option Addr} {n c k : Nat} {zs : List Int} (h : SlB B w (.slice A n c) zs) (hk : k ≤ zs.length) : SlB B w (.slice A k k) (zs.take k) := by
  obtain ⟨A', c', hv, h1, h2, h3⟩ := h
  cases hv
  have hl : (zs.take k).length = k := by rw [List.length_take]; omega
  refine ⟨A, k, by rw [hl], by omega, fun e => by have := h2 e; omega, fun a ha => ?_⟩
  obtain ⟨b, off, rfl, hB, hb, hc⟩ := h3 a ha
  refine ⟨b, off, rfl, hB, hb, fun j z hj => hc j z ?_⟩
  rw [List.getElem?_take] at hj
  split at hj
  · exact hj
  · cases hj
/-- The rest: the slice has moved on, unless there is no room behind it. -/
theorem SlB.rest {B : Nat} {w : World} {b off n c k : Nat} {zs : List Int} (h : SlB B w (.slice (some ⟨b, off, none⟩) n c) zs) (hk : k ≤ zs.length) : SlB B w (.slice (some ⟨b, off + k, none⟩) (n - k) (c - k)) (zs.drop k) := by
  obtain ⟨A', c', hv, h1, h2, h3⟩ := h
  cases hv
  have hl : (zs.drop k).length = zs.length - k := List.length_drop
  refine ⟨some ⟨b, off + k, none⟩, c - k, by rw [hl], by omega, (fun e => by cases e), fun a ha => ?_⟩
  cases ha
  obtain ⟨b', off', he, hB, hb, hc⟩ := h3 _ rfl
  cases he
  refine ⟨b, off + k, rfl, hB, hb, fun j z hj => ?_⟩
  rw [List.getElem?_drop] at hj
  have := hc (k + j) z hj
  rwa [← Nat.add_assoc] at this
theorem SlB.none {B : Nat} {w : World} {A : Option Addr} {zs : List Int} (hz : zs = []) (h : ∀ a, A = some a → ∃ b off, a = ⟨b, off, none⟩ ∧ b < B ∧ b < w.heap.size) : SlB B w (.slice A 0 0) zs := by
  subst hz
  refine ⟨A, 0, rfl, Nat.le_refl _, fun _ => rfl, fun a ha => ?_⟩
  obtain ⟨b, off, rfl, h1, h2⟩ := h a ha
  exact ⟨b, off, rfl, h1, h2, fun j z hj => by simp at hj⟩

end Go.Proofs.Ytdfanconjiiceaa
