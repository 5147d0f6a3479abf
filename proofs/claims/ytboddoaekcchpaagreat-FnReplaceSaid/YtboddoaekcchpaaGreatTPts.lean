/- What PartsOfTerm of the program and of the model do: the texts of the parts, in a row of the call's own. -/
import Derived.Test.YtboddoaekcchpaaGreatStrV
import Derived.Test.YtboddoaekcchpaaGreatTNol
import Derived.Test.YtboddoaekcchpaaGreatTTerm
namespace Go.Proofs.YtboddoaekcchpaaGreat
open Go.RowKit

/-- The texts of the parts of a term's text. -/
def partsA (s : ByteArray) : List ByteArray := match readT s with
  | some t => t.kids.map fun k => bytesOf k.txt
  | none => []
theorem partsA_len (s : ByteArray) : (partsA s).length ≤ 2 := by
  unfold partsA
  cases readT s with
  | none => simp
  | some t => simp only [List.length_map]; exact kids_len t


/-- How PartsOfTerm ends. -/
def PtsPost (ss : List ByteArray) (w : World) (e : Ending) (w' : World) : Prop :=
  ∃ sv, e = .returned sv ∧ w.grownBy w' none ∧ w'.ownsRow w.heap.size 9 1 sv ss.length (strV ss)

/-- One text more in a row of the call's own. -/
theorem str_more {w1 wr w2 w3 : World} {sv : Value} {A : Option Addr} {k c n : Nat} {l : List ByteArray} {x : ByteArray} (hg : w1.grownBy wr none) (ho : wr.ownsRow w1.heap.size 9 1 sv l.length (strV l)) (hg2 : wr.grownBy w2 none)
    (ho3 : w3.ownsRow w1.heap.size 9 1 (.slice A k c) n (strV l ++ [.string x])) (hg3 : w2.grownBy w3 sv.ownBlock) (hn : n = (l ++ [x]).length) :
    w3.ownsRow w1.heap.size 9 1 (.slice A k c) (l ++ [x]).length (strV (l ++ [x])) ∧ w1.grownBy w3 none := by
  subst hn
  rw [strV_snoc]
  refine ⟨ho3, ?_⟩
  have h2 := hg.trans hg2
  exact ⟨hg3.os.trans h2.os, hg3.tape.trans h2.tape, hg3.output.trans h2.output, Nat.le_trans h2.size hg3.size, fun k hk _ => (hg3.block k (Nat.lt_of_lt_of_le hk h2.size) (fun e => by have := (ho.lt k e.symm).1; omega)).trans (h2.block k hk (by simp))⟩

end Go.Proofs.YtboddoaekcchpaaGreat
