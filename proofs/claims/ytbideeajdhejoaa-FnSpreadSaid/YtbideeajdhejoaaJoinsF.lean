/- The functions that foldSegments of the program is handed. -/
import Derived.Test.YtbideeajdhejoaaFoldSg
namespace Go.Proofs.Ytbideeajdhejoaa
open Go.RowKit

theorem ret_intY {a b : Int} (h : a = b) : Ending.returned (.int .i64 a) = .returned (.int .i64 b) := by rw [h]

def addF (a b : Int) : Int := (a + b) % 10007
def mostF (a b : Int) : Int := max a b
def countF (a b : Int) : Int := if b = 0 then a else a + 1
def plusF (a b : Int) : Int := a + b

end Go.Proofs.Ytbideeajdhejoaa
