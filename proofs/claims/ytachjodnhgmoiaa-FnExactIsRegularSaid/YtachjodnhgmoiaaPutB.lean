/- Plain pieces for what puts a layout together. -/
import Derived.Test.YtachjodnhgmoiaaLayMem
import Derived.Test.YtachjodnhgmoiaaAside
namespace Go.Proofs.Ytachjodnhgmoiaa
open Go.RowKit

theorem gr_drew (w : World) (row : Option Nat) : w.grownBy w.drew row := ⟨rfl, rfl, rfl, Nat.le_refl _, fun _ _ _ => rfl⟩
theorem Pr.row {w w1 : World} {base g0 n : Nat} {x y v : Value} {xs : List Value} {t : TypeId} (hp : Pr w g0 t x y) (ho : w.ownsRow base 3 1 v n xs) (ht : t ≠ 3) (hg : w.grownBy w1 v.ownBlock) : Pr w1 g0 t x y :=
  hp.grown hg (fun e => by
    rcases ho.2 with ⟨rfl, _⟩ | ⟨b, cap, cur, rfl, _, hb, _⟩
    · cases e
    · simp only [Value.ownBlock, Option.some.injEq] at e
      subst e
      unfold Pr at hp
      rw [hb] at hp
      cases hp
      exact ht rfl)
theorem below_row {w w1 : World} {base n : Nat} {v : Value} {xs : List Value} {e : TypeId} (ho : w.ownsRow base e 1 v n xs) (hb : base ≤ w.heap.size) (hg : w.grownBy w1 v.ownBlock) : Below base w w1 :=
  ⟨hg.os, hg.tape, hg.output, hg.size, fun k hk => hg.block k (Nat.lt_of_lt_of_le hk hb) (fun e => by have := (ho.lt k e.symm).1; omega)⟩
theorem below_set {w : World} {base g i : Nat} {u : Value} (h : base ≤ g) : Below base w (w.setCell ⟨g, i, none⟩ u) :=
  ⟨rfl, rfl, rfl, by simp [World.setCell], fun k hk => Below.heap_setCell _ _ _ _ (by simp; omega)⟩
theorem All2.nth {α β : Type} {R : α → β → Prop} : ∀ {l : List α} {m : List β} {j : Nat}, All2 R l m → j < m.length → ∃ a b, l[j]? = some a ∧ m[j]? = some b ∧ R a b
  | a :: l, b :: m, 0, ⟨h, _⟩, _ => ⟨a, b, rfl, rfl, h⟩
  | _ :: l, _ :: m, j + 1, ⟨_, h⟩, hj => by
    obtain ⟨a, b, h1, h2, h3⟩ := All2.nth (j := j) h (by simpa using hj)
    exact ⟨a, b, by simpa using h1, by simpa using h2, h3⟩
  | [], [], _, _, hj => by simp at hj
  | [], _ :: _, _, h, _ => h.elim
  | _ :: _, [], _, h, _ => h.elim
theorem own_below {w w' : World} {base b0 e n : Nat} {v : Value} {xs : List Value} (h : w.ownsRow b0 e 1 v n xs) (hS : ∀ g, v.ownBlock = some g → g < base) (hb : Below base w w') : w'.ownsRow b0 e 1 v n xs := own_keep h (fun g hg => hb.block g (hS g hg))
theorem Short.level {k : Nat} {LL : List (List Int)} {L : List Int} (h : Short LL) (hL : LL[k]? = some L) : L.length ≤ 1000000 := h k L hL
theorem parts_le {k d : Nat} {LL : List (List Int)} {ts : List (T (d + 1))} (hlen : LL.length = k + (d + 1)) (hs : Short (behind k LL (lv (d + 1) ts))) : ts.length ≤ 1000000 := by
  obtain ⟨L, hL⟩ : ∃ L, LL[k]? = some L := ⟨_, List.getElem?_eq_getElem (by omega)⟩
  have h1 : (LL.take k).length = k := by rw [List.length_take]; omega
  have h2 := hs k (L ++ ts.map fun t => ((prt t).length : Int)) (by
    rw [behind, drop_at hL, List.getElem?_append_right (by omega), h1]
    simp [lv, addL])
  rw [List.length_append, List.length_map] at h2
  omega

end Go.Proofs.Ytachjodnhgmoiaa
