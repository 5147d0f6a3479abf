/- How the replacement's method in of the program ends. -/
import Derived.Test.YtboddoaekcchpaaGreatTmM
import Derived.Test.YtboddoaekcchpaaGreatTmD
namespace Go.Proofs.YtboddoaekcchpaaGreat
open Go.RowKit

/-- What the replacement's method in does. -/
def InP (t : Tm) (w : World) (e : Ending) (w' : World) : Prop := ∃ v, e = .returned v ∧ w.grownBy w' none ∧ PT w' (fun _ => True) t v
def InnC : Prop := ∀ (r : Nat) (v : Int) (u : Tm) (byv : Value) (fb : Nat) (t : Tm) (x : Value) (w : World), PT w (fun _ => True) t x → w.heap[r]? = some (.cells #[.int .u8 v, byv, .map (some fb)] 93 (0, 0)) → PT w (fun _ => True) u byv →
    Calls Tryz.prog 28 #[.pointer (some ⟨r, 0, none⟩), x] w (InP (t.rep v u) w)

end Go.Proofs.YtboddoaekcchpaaGreat
