/- What take of the program does: the first numbers, without room behind them, and the rest. -/
import Derived.Test.YtdfanconjiiceaaAside
namespace Go.Proofs.Ytdfanconjiiceaa
open Go.RowKit

/-- How take ends: what it gives lies where the numbers lay; the struct holds the rest. -/
def TakePost (gf z m c : Nat) (A : Option Addr) (y : Value) (w : World) (e : Ending) (w' : World) : Prop :=
  e = .returned (.agg #[.slice A z z]) ∧ w.grownBy w' (some gf) ∧ ∃ A' c', Pr w' gf 70 (.slice A' (m - z) c') y ∧ ((∃ b off, A = some ⟨b, off, none⟩ ∧ A' = some ⟨b, off + z, none⟩ ∧ c' = c - z) ∨ (A' = A ∧ c' = 0 ∧ m - z = 0))

theorem gr_take {w : World} {gf : Nat} {x y u : Value} {o : Obj} {t : TypeId} (h : Pr w gf t x y) : w.grownBy ((w.setCell ⟨gf, 0, none⟩ u).alloc o) (some gf) ∧ Pr ((w.setCell ⟨gf, 0, none⟩ u).alloc o) gf t u y :=
  ⟨(gr_set w gf 0 u).trans (World.grownBy_alloc _ _ _), (h.set0 u).alloc o⟩

set_option maxRecDepth 100000 in
set_option maxHeartbeats 1000000 in
theorem take_some (gf b off z m c : Nat) (y : Value) (w : World) (h : Pr w gf 70 (.slice (some ⟨b, off, none⟩) m c) y) (hz : z ≤ m) (hm : m ≤ c) :
    Calls Try.prog 107 #[.pointer (some ⟨gf, 0, none⟩), .int .i64 (z : Int)] w (TakePost gf z m c (some ⟨b, off, none⟩) y w) := by
  have HP := Lib.hid h
  have c0 := (HP.out.alloc (.cells #[.slice none 0 0] 68)).c0
  have f0 := (HP.out.alloc (.cells #[.slice none 0 0] 68)).f 0
  have hlt := h.lt
  have hzc : z ≤ c := by omega
  clear h
  rcases Nat.lt_or_ge z c with hc | hc
  · have hne : ¬ z = c := by omega
    go_enter Try.func107, Try.ntmps107
    go_wp2_with fail
    all_goals
      refine bodyPost_ret (v := .agg #[.slice (some ⟨b, off, none⟩) z z]) (by simp [results, Try.results107, go_sem]) rfl ?_
      obtain ⟨g1, g2⟩ := gr_take (u := .slice (some ⟨b, off + z, none⟩) (m - z) (c - z)) (o := .cells #[.slice (some ⟨b, off, none⟩) z z] 68) HP.out
      exact ⟨rfl, g1, _, _, g2, .inl ⟨b, off, rfl, rfl, rfl⟩⟩
  · obtain rfl : z = c := by omega
    obtain rfl : m = z := by omega
    go_enter Try.func107, Try.ntmps107
    go_wp2_with fail
    all_goals
      refine bodyPost_ret (v := .agg #[.slice (some ⟨b, off, none⟩) m m]) (by simp [results, Try.results107, go_sem]) rfl ?_
      obtain ⟨g1, g2⟩ := gr_take (u := .slice (some ⟨b, off, none⟩) 0 0) (o := .cells #[.slice (some ⟨b, off, none⟩) m m] 68) HP.out
      exact ⟨rfl, g1, some ⟨b, off, none⟩, 0, by rw [Nat.sub_self]; exact g2, .inr ⟨rfl, rfl, by omega⟩⟩

set_option maxRecDepth 100000 in
set_option maxHeartbeats 1000000 in
theorem take_nil (gf : Nat) (y : Value) (w : World) (h : Pr w gf 70 (.slice none 0 0) y) :
    Calls Try.prog 107 #[.pointer (some ⟨gf, 0, none⟩), .int .i64 0] w (TakePost gf 0 0 0 none y w) := by
  have HP := Lib.hid h
  have c0 := (HP.out.alloc (.cells #[.slice none 0 0] 68)).c0
  have f0 := (HP.out.alloc (.cells #[.slice none 0 0] 68)).f 0
  have hlt := h.lt
  clear h
  go_enter Try.func107, Try.ntmps107
  go_wp2_with fail
  all_goals
    refine bodyPost_ret (v := .agg #[.slice none 0 0]) (by simp [results, Try.results107, go_sem]) rfl ?_
    obtain ⟨g1, g2⟩ := gr_take (u := .slice none 0 0) (o := .cells #[.slice none 0 0] 68) HP.out
    exact ⟨rfl, g1, none, 0, g2, .inr ⟨rfl, rfl, by omega⟩⟩

theorem take_any (gf z m c : Nat) (A : Option Addr) (D : List Int) (y : Value) (w : World) (h : Pr w gf 70 (.slice A m c) y) (hI : Ints w A D) (hm : D.length = m) (hn : A = none → c = 0) (hz : z ≤ m) (hmc : m ≤ c) (hf : ∀ a, A = some a → a.spot = none) :
    Calls Try.prog 107 #[.pointer (some ⟨gf, 0, none⟩), .int .i64 (z : Int)] w (TakePost gf z m c A y w) := by
  cases A with
  | none =>
    have h0 := hn rfl
    obtain rfl : m = 0 := by omega
    obtain rfl : z = 0 := by omega
    subst h0
    exact take_nil gf y w h
  | some a =>
    obtain ⟨b, off, sp⟩ := a
    have : sp = none := hf _ rfl
    subst this
    exact take_some gf b off z m c y w h hz hmc

end Go.Proofs.Ytdfanconjiiceaa
