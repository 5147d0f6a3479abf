/- How drawn pairs of lists come. -/
import Derived.Test.YtbideeajdhejoaaSome3
import Derived.Test.YtbideeajdhejoaaSame
namespace Go.Proofs.Ytbideeajdhejoaa
open Go.ChangeShapes Go.WideShapes Go.ChangeAt Go.RowKit

/-- How drawn pairs of lists come. -/
def PairPost (w : World) (e : Ending) (w' : World) : Prop :=
  ∃ u v L D, e = .returned (.tuple #[u, v]) ∧ OwnI w' u L ∧ OwnI w' v D ∧ L.length ≤ 400 ∧ D.length ≤ 400 ∧ w.grownBy w' none

end Go.Proofs.Ytbideeajdhejoaa
