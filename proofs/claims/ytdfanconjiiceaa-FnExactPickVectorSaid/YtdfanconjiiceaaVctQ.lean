/- A vector all of whose rows lie at known places; the arrays that it holds. -/
import Derived.Test.YtdfanconjiiceaaInner
import Derived.Test.YtdfanconjiiceaaVecOk
import Derived.Test.YtdfanconjiiceaaPicks
namespace Go.Proofs.Ytdfanconjiiceaa
open Go.RowKit

/-- A vector's three cells, all of whose rows lie at known places. -/
def VctQ (w : World) (v : Value) (k : Int) (LL : List (List Int)) (D : List Int) : Prop :=
  ∃ (A : Option Addr) (c : Nat) (B : Option Addr) (e : Nat), v = .agg #[.int .i64 k, .slice A LL.length c, .slice B D.length e] ∧ LL.length ≤ c ∧ SlB w.heap.size w (.slice B D.length e) D ∧
    ((A = none ∧ c = 0) ∨ ∃ (g off : Nat), A = some ⟨g, off, none⟩ ∧ g < w.heap.size ∧ ∀ (i : Nat) (L : List Int), LL[i]? = some L → ∃ x, w.cell? ⟨g, off + i, none⟩ = some x ∧ SlB w.heap.size w x L)
theorem VctQ.grown {w w' : World} {v : Value} {k : Int} {LL : List (List Int)} {D : List Int} (h : VctQ w v k LL D) (hg : w.grownBy w' none) : VctQ w' v k LL D := by
  obtain ⟨A, c, B, e, rfl, h1, h2, h3⟩ := h
  refine ⟨A, c, B, e, rfl, h1, slb_up (slb_gr h2 hg) hg.size, ?_⟩
  rcases h3 with h3 | ⟨g, off, rfl, hgl, hc⟩
  · exact .inl h3
  · refine .inr ⟨g, off, rfl, Nat.lt_of_lt_of_le hgl hg.size, fun i L hL => ?_⟩
    obtain ⟨x, hx, hs⟩ := hc i L hL
    exact ⟨x, hg.cell hx (by simp), slb_up (slb_gr hs hg) hg.size⟩
theorem VctQ.vct {w : World} {v : Value} {k : Int} {LL : List (List Int)} {D : List Int} (h : VctQ w v k LL D) : Vct w v k LL D := by
  obtain ⟨A, c, B, e, rfl, h1, h2, h3⟩ := h
  obtain ⟨_, h4, h5, _⟩ := h2.ints
  refine ⟨A, c, B, e, rfl, h1, h4, fun hl => ?_, h5⟩
  rcases h3 with ⟨rfl, rfl⟩ | ⟨g, off, rfl, hgl, hc⟩
  · omega
  · refine ⟨g, off, rfl, hgl, fun j L hj => ?_⟩
    obtain ⟨x, hx, hs⟩ := hc j L hj
    obtain ⟨A2, c2, rfl⟩ := hs.form
    obtain ⟨_, h6, h7, _⟩ := hs.ints
    exact ⟨A2, c2, hx, h6, h7⟩
/-- Its levels. -/
theorem VctQ.lvb {w : World} {A B : Option Addr} {n c m e : Nat} {k : Int} {d : Nat} {ts : List (T d)} {LL : List (List Int)} {D : List Int} (h : VctQ w (.agg #[.int .i64 k, .slice A n c, .slice B m e]) k LL D) (hL : lv d ts = LL) (hD : dat d ts = D) :
    SlB w.heap.size w (.slice B m e) (dat d ts) ∧ LvB w.heap.size w d ts A c ∧ n = d ∧ m = (dat d ts).length := by
  obtain ⟨A', c', B', e', hv, h1, h2, h3⟩ := h
  simp only [Value.agg.injEq, Array.mk.injEq, List.cons.injEq, Value.slice.injEq, and_true, true_and] at hv
  obtain ⟨⟨rfl, rfl, rfl⟩, rfl, rfl, rfl⟩ := hv
  have hld : LL.length = d := by rw [← hL, lv_len]
  refine ⟨by rw [hD]; exact h2, ?_, hld, by rw [hD]⟩
  rcases h3 with ⟨rfl, rfl⟩ | ⟨g, off, rfl, hgl, hc⟩
  · exact .inl ⟨rfl, rfl, by omega⟩
  · refine .inr ⟨g, off, (List.range d).map (fun i => (w.cell? ⟨g, off + i, none⟩).getD (.int .i64 0)), rfl, hgl, by simp, fun j v hj => ?_, fun i L hL2 => ?_⟩
    · have hjd : j < d := by have := (List.getElem?_eq_some_iff.1 hj).1; simpa using this
      rw [List.getElem?_map, List.getElem?_range hjd] at hj
      simp only [Option.map_some, Option.some.injEq] at hj
      obtain ⟨M, hM⟩ : ∃ M, LL[j]? = some M := ⟨_, List.getElem?_eq_getElem (by omega)⟩
      obtain ⟨x, hx, _⟩ := hc j M hM
      rw [hx] at hj
      simp only [Option.getD_some] at hj
      subst hj
      exact hx
    · rw [hL] at hL2
      have hid : i < d := by have := (List.getElem?_eq_some_iff.1 hL2).1; omega
      obtain ⟨x, hx, hs⟩ := hc i L hL2
      refine ⟨x, ?_, hs⟩
      rw [List.getElem?_map, List.getElem?_range hid]
      simp only [Option.map_some, hx, Option.getD_some]

/-- Are the indices those of arrays of a vector? -/
def pickB (k : Int) (LL : List (List Int)) (D : List Int) (a : List Int) : Bool := okV k LL D && (decide (a.length ≤ 2000) && okN (k - 1) a)
/-- The arrays that are picked. -/
def pickT (LL : List (List Int)) (D : List Int) (a : List Int) : List (T LL.length) := picks (foldN LL.length LL D) a
theorem okN_inN : ∀ {a : List Int} {k : Nat}, okN ((k : Int) - 1) a = true → InN k a
  | [], _, _ => fun i hi => by simp at hi
  | z :: a, k, h => fun i hi => by
    simp only [okN, Bool.and_eq_true, decide_eq_true_eq] at h
    rcases List.mem_cons.1 hi with rfl | hi
    · omega
    · exact okN_inN h.2 i hi
/-- What a valid vector is. -/
theorem okV_fits {k : Int} {LL : List (List Int)} {D : List Int} (h : okV k LL D = true) : ∃ p : Nat, k = p ∧ p ≤ 2000 ∧ LL.length ≤ 3 ∧ Fits p LL D := by
  unfold okV at h
  simp only [Bool.and_eq_true, decide_eq_true_eq] at h
  obtain ⟨h1, h2⟩ := h
  refine ⟨k.toNat, by omega, by omega, ?_, ?_⟩
  · rcases wrongAt_levels LL 0 k.toNat D h2 with rfl | h3
    · simp
    · omega
  · refine wrongAt_fits LL 0 k.toNat D h2 ?_
    rcases wrongAt_levels LL 0 k.toNat D h2 with rfl | h3
    · exact .inr rfl
    · exact .inl h3

end Go.Proofs.Ytdfanconjiiceaa
