/- Plain pieces: how functions end that return a list and a truth. -/
import Derived.Test.YtbideeajdhejoaaSegS2
import Derived.Test.YtbideeajdhejoaaSegI
namespace Go.Proofs.Ytbideeajdhejoaa
open Go.RowKit

theorem postB_of {zs : List Int} {b : Bool} {w w0 w' : World} {A : Option Addr} {c n : Nat} (hn : zs.length = n) (h0 : w0.heap.size ≤ w.heap.size) (hg : w0.grownBy w' none) (ho : w'.ownsRow w.heap.size 3 1 (.slice A n c) n (zs.map (Value.int .i64))) {e : Ending} (he : e = .returned (.tuple #[.slice A n c, .bool b])) : ListPostB zs b w0 e w' := by
  subst hn
  exact ⟨A, c, he, hg, own_base ho h0⟩
theorem postB_nil (w w' : World) (hg : w.grownBy w' none) : ListPostB [] false w (.returned (.tuple #[.slice none 0 0, .bool false])) w' := ⟨none, 0, rfl, hg, World.ownsRow_nil _ _ _ _⟩
theorem okN_up {lo hi : Int} (h : lo ≤ hi) : ∀ {l : List Int}, okN lo l = true → okN hi l = true
  | [], _ => rfl
  | z :: l, h1 => by
    simp only [okN, Bool.and_eq_true, decide_eq_true_eq] at h1 ⊢
    exact ⟨⟨h1.1.1, by omega⟩, okN_up h h1.2⟩

end Go.Proofs.Ytbideeajdhejoaa
