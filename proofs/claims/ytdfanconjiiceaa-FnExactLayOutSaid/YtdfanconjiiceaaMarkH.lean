/- The laws' heldLayout. -/
import Derived.Test.YtdfanconjiiceaaMark
namespace Go.Proofs.Ytdfanconjiiceaa
open Go.RowKit

set_option maxHeartbeats 1000000 in
theorem heldl_any (v : Value) (k : Nat) (LL : List (List Int)) (m : Nat) (w : World) (h : numLyt w v k LL m) (hn : LL.length ≤ 1099511627776) (hk : k + totL LL + m ≤ 1099511627776) :
    Calls Try.prog 11 #[v, .int .i64 (k : Int)] w fun e w' => e = .returned (.int .i64 ((k + totL LL + m : Nat) : Int)) ∧ w.grownBy w' none := by
  obtain ⟨A, c, B, d, rfl, _, _, hr, hi⟩ := h
  rw [numL_len, upFrom_length]
  have HS := Lib.hid (fun w h => helds_any A c k LL w h hn (by omega))
  obtain ⟨x, hx⟩ : ∃ x, k + totL LL = x := ⟨_, rfl⟩
  rw [hx] at hi hk HS
  rw [hx]
  have HI := Lib.hid (fun (w : World) (h : Ints w B (upFrom x m)) => held_any B d x m w h (by omega) (by omega))
  have HR1 := Lib.hid hr
  have HI1 := Lib.hid hi
  obtain ⟨y, hy⟩ : ∃ y, x + m = y := ⟨_, rfl⟩
  rw [hy] at hk HI
  rw [hy]
  obtain ⟨n, hnn⟩ : ∃ n, LL.length = n := ⟨_, rfl⟩
  rw [hnn] at HS ⊢
  have hx1 : x ≤ 1099511627776 := by omega
  clear hr hi hx hy hnn hn
  go_enter Try.func11, Try.ntmps11
  go_wp2_with fail
  refine (HS.out _ (HR1.out.grown (World.grownBy_alloc _ _ _))).mono ?_
  rintro e w1 ⟨rfl, rfl⟩
  go_wp2_with fail
  refine (HI.out _ (HI1.out.grown (World.grownBy_alloc _ _ none) (by simp))).mono ?_
  rintro e w2 ⟨rfl, rfl⟩
  go_wp2_with fail
  go_ret
  exact ⟨rfl, World.grownBy_alloc _ _ _⟩

end Go.Proofs.Ytdfanconjiiceaa
