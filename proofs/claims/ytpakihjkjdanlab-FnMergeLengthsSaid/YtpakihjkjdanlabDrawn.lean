/- What DrawMostSegments of the model does. -/
import Derived.Test.YtpakihjkjdanlabSome3
import Derived.Test.YtpakihjkjdanlabSame
namespace Go.Proofs.Ytpakihjkjdanlab
open Go.ChangeShapes Go.WideShapes Go.ChangeAt Go.RowKit

/-- How drawn pairs of lists come. -/
def PairPost (w : World) (e : Ending) (w' : World) : Prop :=
  ∃ u v L D, e = .returned (.tuple #[u, v]) ∧ OwnI w' u L ∧ OwnI w' v D ∧ L.length ≤ 400 ∧ D.length ≤ 400 ∧ w.grownBy w' none

set_option maxHeartbeats 1000000 in
theorem drawmost_any (A : Option Addr) (n c : Nat) (w : World) (h : Byts w A n) (hc : n ≤ c) (hn : n ≤ 9223372036854775807) :
    Calls Try.prog 36 #[.slice A n c] w (PairPost w) := by
  have HO := Lib.hid (open_any A n c w h hc hn)
  clear h hc hn
  go_enter Try.func36, Try.ntmps36
  go_wp2_with fail
  refine HO.out.mono ?_
  rintro e w1 ⟨rfl, ⟨n', c', hn', hr, hA⟩, hg⟩
  have HS := Lib.hid (some3_any w.heap.size n' c' 0 A w1 hr (fun hp b off e => Nat.lt_trans (hA hp b off e) hr.lt) (by omega) hn')
  have HG := Lib.hid hg
  clear hr hA hg HO
  go_wp2_with fail
  refine HS.out.mono ?_
  rintro e w2 ⟨u, v, L, D, p', rfl, hst, hl, hd, _, hg⟩
  have HP := Lib.hid (⟨u, v, L, D, rfl, own_base hst.hu (Nat.zero_le _), own_base hst.hv (Nat.zero_le _), hl, hd, gr_own HG.out hg (fun k hk => by cases hk; exact Nat.le_refl _)⟩ : PairPost w (.returned (.tuple #[u, v])) w2)
  clear hst hg HS
  go_wp2_with fail
  go_ret2
  exact HP.out

end Go.Proofs.Ytpakihjkjdanlab
