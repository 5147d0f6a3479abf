/- What the stacks of the program do: a term is taken. -/
import Derived.Test.YtdfanconjiiceaaDoorStk
namespace Go.Proofs.YtdfanconjiiceaaDoor
open Go.RowKit

/-- The last cell of a row. -/
theorem own_last {w : World} {base n c : Nat} {e : TypeId} {A : Option Addr} {xs : List Value} {x : Value} (h : w.ownsRow base e 1 (.slice A (n + 1) c) (n + 1) (xs ++ [x])) :
    ∃ g, A = some ⟨g, 0, none⟩ ∧ g < w.heap.size ∧ n + 1 ≤ c ∧ xs.length = n ∧ w.cell? ⟨g, n, none⟩ = some x := by
  have hl := h.1
  simp at hl
  rcases h.2 with ⟨_, hn⟩ | ⟨g, cap, cur, hv, hb, hg, hnc, hcm, hcs, htake⟩
  · omega
  · cases hv
    refine ⟨g, rfl, (Array.getElem?_eq_some_iff.1 hg).1, hnc, hl, ?_⟩
    rw [cell_of_row w g n _ _ (0, 0) hg]
    have h1 : (cur.toList.take ((n + 1) * 1))[n]? = some x := by rw [htake, List.getElem?_append_right (by omega)]; simp [hl]
    rw [List.getElem?_take, if_pos (by omega)] at h1
    simpa using h1

set_option maxRecDepth 100000 in
set_option maxHeartbeats 1000000 in
theorem pop_t_none (b : Nat) (A : Option Addr) (c : Nat) (v1 : Value) (w : World) (h : CR w b (.slice A 0 c) v1) :
    Calls Tryd.prog 58 #[.pointer (some ⟨b, 0, none⟩)] w fun e w' => e = .returned (.tuple #[.nilIface, .bool false]) ∧ w' = w := by
  have c0 := h.c0
  clear h
  go_enter Tryd.func58, Tryd.ntmps58
  go_wp2_with fail
  go_ret2
  exact ⟨rfl, rfl⟩

set_option maxRecDepth 100000 in
set_option maxHeartbeats 1000000 in
theorem pop_t_some (n0 b : Nat) (A : Option Addr) (n c : Nat) (v1 : Value) (ty : TypeId) (pv : Value) (vs : List Value) (w : World) (h : CR w b (.slice A (n + 1) c) v1) (ho : w.ownsRow n0 40 1 (.slice A (n + 1) c) (n + 1) (vs ++ [.iface ty pv])) (hl : n ≤ 1000000) :
    Calls Tryd.prog 58 #[.pointer (some ⟨b, 0, none⟩)] w fun e w' => e = .returned (.tuple #[.iface ty pv, .bool true]) ∧ w' = w.setCell ⟨b, 0, none⟩ (.slice A n c) := by
  obtain ⟨g, rfl, hg, hnc, _, hx⟩ := own_last ho
  have c0 := h.c0
  have f0 := h.f 0
  have hc0 : ¬ c = 0 := by omega
  have hlt : n < n + 1 := by omega
  clear h ho
  go_enter Tryd.func58, Tryd.ntmps58
  go_wp2_with fail
  go_ret2
  exact ⟨rfl, rfl⟩

set_option maxRecDepth 100000 in
set_option maxHeartbeats 1000000 in
theorem only_t_none (b : Nat) (A : Option Addr) (c : Nat) (v1 : Value) (w : World) (h : CR w b (.slice A 0 c) v1) :
    Calls Tryd.prog 50 #[.pointer (some ⟨b, 0, none⟩)] w fun e w' => e = .returned (.tuple #[.nilIface, .bool false]) ∧ ∃ k, w' = w.drewN k := by
  have HP := Lib.hid (pop_t_none b A c v1 w h)
  have c0 := h.c0
  clear h
  go_enter Tryd.func50, Tryd.ntmps50
  go_wp2_with fail
  refine HP.out.mono ?_
  rintro e w' ⟨rfl, rfl⟩
  go_wp2_with fail
  go_quiet (fail)
  go_wp2_with fail
  go_ret2
  exact ⟨rfl, _, rfl⟩

/-- What is left of a stack of which a term was taken. -/
theorem popped {w : World} {n0 b n c : Nat} {A : Option Addr} {v1 x : Value} {vs : List Value} (h : CR w b (.slice A (n + 1) c) v1) (ho : w.ownsRow n0 40 1 (.slice A (n + 1) c) (n + 1) (vs ++ [x])) :
    CR (w.setCell ⟨b, 0, none⟩ (.slice A n c)) b (.slice A n c) v1 ∧ (w.setCell ⟨b, 0, none⟩ (.slice A n c)).ownsRow n0 40 1 (.slice A n c) n vs := by
  obtain ⟨g, rfl, _, _, hvl, _⟩ := own_last ho
  refine ⟨h.set0 _, own_keep (own_short ho (by omega) (by omega)) (fun k hk => Below.heap_setCell _ _ _ _ (fun e => own_not ho h (by decide) ?_))⟩
  simp only [Value.ownBlock] at hk ⊢
  rw [hk]
  simpa using e

set_option maxRecDepth 100000 in
set_option maxHeartbeats 1000000 in
theorem only_t_some (n0 b : Nat) (A : Option Addr) (n c : Nat) (v1 : Value) (ty : TypeId) (pv : Value) (vs : List Value) (r : Bool) (hr : decide (n = 0) = r) (w : World) (h : CR w b (.slice A (n + 1) c) v1) (ho : w.ownsRow n0 40 1 (.slice A (n + 1) c) (n + 1) (vs ++ [.iface ty pv])) (hl : n ≤ 1000000) :
    Calls Tryd.prog 50 #[.pointer (some ⟨b, 0, none⟩)] w fun e w' => e = .returned (.tuple #[.iface ty pv, .bool r]) ∧ ∃ k, w' = (w.setCell ⟨b, 0, none⟩ (.slice A n c)).drewN k := by
  have HP := Lib.hid (pop_t_some n0 b A n c v1 ty pv vs w h ho hl)
  have HQ := (popped h ho).1
  have c0 := HQ.c0
  have hrr : (((n : Nat) : Int) == 0) = r := by rw [← hr]; cases n <;> simp; omega
  clear h ho HQ hr
  go_enter Tryd.func50, Tryd.ntmps50
  go_wp2_with fail
  refine HP.out.mono ?_
  rintro e w' ⟨rfl, rfl⟩
  go_wp2_with fail
  go_quiet (fail)
  go_wp2_with fail
  go_ret2
  exact ⟨rfl, _, rfl⟩

end Go.Proofs.YtdfanconjiiceaaDoor
