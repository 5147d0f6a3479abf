/- Rows, boxes and families of different types are apart from each other. -/
import Derived.Test.YtachjodnhgmoiaaGreatDoorFam
namespace Go.Proofs.YtachjodnhgmoiaaGreatDoor
open Go.RowKit

theorem own_len2 {w : World} {base e m n : Nat} {A : Option Addr} {c : Nat} {xs : List Value} (h : w.ownsRow base e 1 (.slice A m c) n xs) : m = n := by
  rcases h.2 with ⟨hv, hn⟩ | ⟨g, cap, cur, hv, _⟩
  · cases hv; omega
  · cases hv; rfl
theorem own_aside {w w' : World} {base base2 n k : Nat} {e t : TypeId} {v u : Value} {xs ys : List Value} (h : w.ownsRow base e 1 v n xs) (h2 : w.ownsRow base2 t 1 u k ys) (ht : t ≠ e) (hg : w.grownBy w' u.ownBlock) : w'.ownsRow base e 1 v n xs :=
  own_keep h (fun g hv => hg.block g (h.lt g hv).2 (fun e2 => ht (own_typ h2 h e2.symm hv)))
theorem own_box {w w' : World} {base n g0 : Nat} {e t : TypeId} {v x y : Value} {xs : List Value} (h : w.ownsRow base e 1 v n xs) (hp : Pr w g0 t x y) (ht : t ≠ e) (hg : w.grownBy w' (some g0)) : w'.ownsRow base e 1 v n xs :=
  own_keep h (fun g hv => hg.block g (h.lt g hv).2 (fun e2 => by
    cases e2
    rcases h.2 with ⟨rfl, _⟩ | ⟨b, cap, cur, rfl, _, hb, _⟩
    · cases hv
    · simp only [Value.ownBlock, Option.some.injEq] at hv
      subst hv
      unfold Pr at hp
      rw [hb] at hp
      cases hp
      exact ht rfl))
theorem box_row {w w' : World} {base n g0 : Nat} {e t : TypeId} {v x y : Value} {xs : List Value} (hp : Pr w g0 t x y) (h : w.ownsRow base e 1 v n xs) (ht : t ≠ e) (hg : w.grownBy w' v.ownBlock) : Pr w' g0 t x y :=
  hp.grown hg (fun e2 => by
    rcases h.2 with ⟨rfl, _⟩ | ⟨b, cap, cur, rfl, _, hb, _⟩
    · cases e2
    · simp only [Value.ownBlock, Option.some.injEq] at e2
      subst e2
      unfold Pr at hp
      rw [hb] at hp
      cases hp
      exact ht rfl)
theorem Fam.box {w w' : World} {base j g0 : Nat} {vs : List Value} {LL : List (List Int)} {t : TypeId} {x y : Value} (h : Fam w base j vs LL) (hp : Pr w g0 t x y) (ht : t ≠ 3) (hg : w.grownBy w' (some g0)) : Fam w' base j vs LL :=
  ⟨fun i L hi hL => by
    obtain ⟨v, hv, A, c, rfl, hc, ho⟩ := h.1 i L hi hL
    exact ⟨_, hv, A, c, rfl, hc, fun hl => own_box (ho hl) hp ht hg⟩, h.2⟩
theorem row_reads {w : World} {base n c : Nat} {A : Option Addr} {L : List Int} (h : w.ownsRow base 3 1 (.slice A n c) L.length (L.map (Value.int .i64))) : n = L.length ∧ Ints w A L ∧ L.length ≤ c ∧ (A = none → c = 0) := by
  have hn := own_len2 h
  subst hn
  refine ⟨rfl, Ints.of_own h, ?_, fun hA => ?_⟩
  · rcases h.2 with ⟨hv, hn⟩ | ⟨g, cap, cur, hv, _, _, hnc, _⟩
    · omega
    · simp only [Value.slice.injEq] at hv; omega
  · rcases h.2 with ⟨hv, hn⟩ | ⟨g, cap, cur, hv, _, _, hnc, _⟩
    · simp only [Value.slice.injEq] at hv; omega
    · rw [hA] at hv; cases hv

end Go.Proofs.YtachjodnhgmoiaaGreatDoor
