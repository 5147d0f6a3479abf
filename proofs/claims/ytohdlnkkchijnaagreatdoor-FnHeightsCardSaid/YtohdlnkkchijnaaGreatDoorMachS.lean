/- How the model's builder of terms lies in memory: a row of nodes, a row of loops' texts, a row of heights. -/
import Derived.Test.YtohdlnkkchijnaaGreatDoorMach
import Derived.Test.YtohdlnkkchijnaaGreatDoorSTRd
namespace Go.Proofs.YtohdlnkkchijnaaGreatDoor
open Go.RowKit

theorem SN.keepT {w w' : World} {S S' : Nat → Prop} (hk : ∀ b xs fr, S b → w.heap[b]? = some (.cells xs 52 fr) → w'.heap[b]? = some (.cells xs 52 fr)) (hs : ∀ b, S b → b < w.heap.size → S' b) :
    ∀ (t : Tm) (x : Int × Int × Value), SN w S t x → SN w' S' t x := by
  have key : ∀ {n : Nat} {v : Value} {xs : List Value}, w.ownsRow 0 52 3 v n xs → (∀ g, v.ownBlock = some g → S g) → w'.ownsRow 0 52 3 v n xs ∧ ∀ g, v.ownBlock = some g → S' g := fun ho hS =>
    ⟨own_keep ho (fun g hg => by
      obtain ⟨cs, hcs⟩ := own_heap ho hg
      rw [hcs]
      exact hk g cs _ (hS g hg) hcs), fun g hg => hs g (hS g hg) (ho.lt g hg).2⟩
  intro t
  induction t with
  | dig c => exact fun x ⟨h1, h2, ho, hS⟩ => ⟨h1, h2, (key ho hS).1, (key ho hS).2⟩
  | var c => exact fun x ⟨h1, h2, ho, hS⟩ => ⟨h1, h2, (key ho hS).1, (key ho hS).2⟩
  | pre c s ih => exact fun x ⟨h1, h2, y, ho, hS, h3⟩ => ⟨h1, h2, y, (key ho hS).1, (key ho hS).2, ih y h3⟩
  | two c s t ih1 ih2 => exact fun x ⟨h1, h2, y, z, ho, hS, h3, h4⟩ => ⟨h1, h2, y, z, (key ho hS).1, (key ho hS).2, ih1 y h3, ih2 z h4⟩
  | loop c v s t ih1 ih2 => exact fun x ⟨h1, h2, y, z, ho, hS, h3, h4⟩ => ⟨h1, h2, y, z, (key ho hS).1, (key ho hS).2, ih1 y h3, ih2 z h4⟩

/-- The texts of the loops that have begun, and how high the stack was. -/
def bsI : List Out → List Int
  | [] => []
  | o :: os => bsI os ++ [((low (o :: os)).length : Int)]
def lpS : List Out → List ByteArray
  | [] => []
  | o :: os => lpS os ++ [strOfNums [o.c, o.v]]
theorem bsI_len : ∀ os, (bsI os).length = os.length
  | [] => rfl
  | o :: os => by simp [bsI, bsI_len os]
theorem lpS_len : ∀ os, (lpS os).length = os.length
  | [] => rfl
  | o :: os => by simp [lpS, lpS_len os]

/-- The height below which nothing is taken. -/
def floorN (os : List Out) : Nat := (low os).length

structure BS (w : World) (n0 b : Nat) (m : MS) (v0 v1 v2 : Value) (xs : List (Int × Int × Value)) : Prop where
  base : n0 ≤ b
  box : C3 w b v0 v1 v2 129
  st : w.ownsRow n0 52 3 v0 xs.length (flat3 xs)
  sn : All2 (SN w (fun k => v0.ownBlock ≠ some k)) (flatS m) xs
  lo : w.ownsRow n0 9 1 v1 m.2.length ((lpS m.2).map Value.string)
  ba : w.ownsRow n0 3 1 v2 m.2.length ((bsI m.2).map (Value.int .i64))

end Go.Proofs.YtohdlnkkchijnaaGreatDoor
