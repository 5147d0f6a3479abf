/- New rows of ints that are handed back. -/
import Derived.Test.YtbideeajdhejoaaSegS
import Derived.Test.YtbideeajdhejoaaOwnI
namespace Go.Proofs.Ytbideeajdhejoaa
open Go.RowKit

/-- A new row of ints that is handed back. -/
def ListPost (zs : List Int) (w : World) (e : Ending) (w' : World) : Prop :=
  ∃ A c, e = .returned (.slice A zs.length c) ∧ w.grownBy w' none ∧ w'.ownsRow w.heap.size 3 1 (.slice A zs.length c) zs.length (zs.map (Value.int .i64))
/-- The same, and a second result. -/
def ListPostB (zs : List Int) (b : Bool) (w : World) (e : Ending) (w' : World) : Prop :=
  ∃ A c, e = .returned (.tuple #[.slice A zs.length c, .bool b]) ∧ w.grownBy w' none ∧ w'.ownsRow w.heap.size 3 1 (.slice A zs.length c) zs.length (zs.map (Value.int .i64))

theorem made_row (w : World) (B : Nat) (hB : B ≤ w.heap.size) : (w.alloc (.cells #[] 3)).ownsRow B 3 1 (.slice (some ⟨w.heap.size, 0, none⟩) 0 0) 0 [] := by
  have := World.ownsRow_made (base := B) (e := 3) (size := 1) w #[] 0 hB (by simp) (by simp)
  simpa using this

/-- One number more behind a row of the call's own. -/
theorem row_one {w0 w w1 : World} {B q : Nat} {v v' : Value} {xs : List Int} {z : Int} {o : Obj} (h : w0.grownBy w none) (hB : w0.heap.size ≤ B) (ho : w.ownsRow B 3 1 v q (xs.map (Value.int .i64)))
    (ho' : w1.ownsRow B 3 1 v' (q + 1) (xs.map (Value.int .i64) ++ [.int .i64 z])) (hg : (w.alloc o).grownBy w1 v.ownBlock) :
    w0.grownBy w1 none ∧ w1.ownsRow B 3 1 v' (q + 1) ((xs ++ [z]).map (Value.int .i64)) ∧ ∃ g c, v' = .slice (some ⟨g, 0, none⟩) (q + 1) c := by
  refine ⟨gr_ownF (h.trans (World.grownBy_alloc w o none)) hg (fun k hk => Nat.le_trans hB (ho.lt k hk).1), by simpa using ho', ?_⟩
  rcases ho'.2 with ⟨_, hn⟩ | ⟨g, cap, cur, hv, _⟩
  · omega
  · exact ⟨g, cap, hv⟩

end Go.Proofs.Ytbideeajdhejoaa
