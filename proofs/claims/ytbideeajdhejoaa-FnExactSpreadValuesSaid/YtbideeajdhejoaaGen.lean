/- Plain facts: what is spread, what counts up. -/
import Derived.Test.YtbideeajdhejoaaPostB
import Derived.Test.YtbideeajdhejoaaSegGen
namespace Go.Proofs.Ytbideeajdhejoaa
open Go.RowKit

def spreadF (V : List Int) (j _k : Nat) : Int := V.getD j 0
def upF (_j k : Nat) : Int := k
def spreadB (L V : List Int) : Bool := lensB L && (decide (V.length = L.length) && okN 10006 V)
def spreadR (L V : List Int) : List Int := if spreadB L V = true then genI (spreadF V) 0 L else []
def upR (L : List Int) : List Int := if lensB L = true then genI upF 0 L else []
theorem spreadB_get {L V : List Int} (h : spreadB L V = true) : lensB L = true ∧ V.length = L.length ∧ okN 10006 V = true := by
  simp only [spreadB, Bool.and_eq_true, decide_eq_true_eq] at h
  exact h

end Go.Proofs.Ytbideeajdhejoaa
