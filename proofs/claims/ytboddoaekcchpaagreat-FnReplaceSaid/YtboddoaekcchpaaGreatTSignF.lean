/- The length of a row that is owned. -/
import Derived.Test.YtboddoaekcchpaaGreatOwn
namespace Go.Proofs.YtboddoaekcchpaaGreat
open Go.RowKit

theorem own_len {w : World} {base : Nat} {e : TypeId} {size n : Nat} {A : Option Addr} {k c : Nat} {xs : List Value} (h : w.ownsRow base e size (.slice A k c) n xs) : k = n := by
  rcases h.2 with ⟨hv, hn⟩ | ⟨g, cap, cur, hv, _⟩
  · cases hv; exact hn.symm
  · cases hv; rfl

end Go.Proofs.YtboddoaekcchpaaGreat
