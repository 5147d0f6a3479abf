/- The model's nodes in memory. -/
import Derived.Test.YtachjodnhgmoiaaGreatDoorByte
import Derived.Test.YtachjodnhgmoiaaGreatDoorOwn
import Derived.Test.YtachjodnhgmoiaaGreatDoorGr
import Derived.Test.YtachjodnhgmoiaaGreatDoorFam
namespace Go.Proofs.YtachjodnhgmoiaaGreatDoor
open Go.RowKit

theorem infoN : (Tryz.prog.info? 50).map (fun i => (i.zero, i.size, i.bytes)) = some (some (.agg #[.int .i64 0, .slice none 0 0]), 2, 32) := by kernel_rfl
def flat2 : List (Int × Value) → List Value
  | [] => []
  | (m, sv) :: l => .int .i64 m :: sv :: flat2 l
theorem flat2_length : ∀ l, (flat2 l).length = l.length * 2
  | [] => rfl
  | (m, sv) :: l => by simp [flat2, flat2_length l]; omega
theorem flat2_snoc (m : Int) (sv : Value) : ∀ l, flat2 (l ++ [(m, sv)]) = flat2 l ++ [.int .i64 m, sv]
  | [] => rfl
  | (a, b) :: l => by simp [flat2, flat2_snoc m sv l]

/-- The model's node: its number, and its parts in a row. Its blocks are among S. -/
def SNd (w : World) (S : Nat → Prop) : (d : Nat) → T d → Int × Value → Prop
  | 0, n, x => x.1 = (show Nat from n : Nat) ∧ (show Nat from n) < 10007 ∧ ∃ A k c, x.2 = .slice A k c
  | d + 1, ts, x => ∃ xs, w.ownsRow 0 50 2 x.2 xs.length (flat2 xs) ∧ (∀ g, x.2.ownBlock = some g → S g) ∧ All2 (SNd w S d) ts xs

theorem SNd.keep {w w' : World} {S S' : Nat → Prop} (hk : ∀ b, S b → b < w.heap.size → w'.heap[b]? = w.heap[b]?) (hs : ∀ b, S b → b < w.heap.size → S' b) : ∀ (d : Nat) (t : T d) (x : Int × Value), SNd w S d t x → SNd w' S' d t x
  | 0, _, _, h => h
  | d + 1, ts, x, ⟨xs, ho, hS, ha⟩ => by
    have hl2 : ∀ g, x.2.ownBlock = some g → g < w.heap.size := fun g hg => (ho.lt g hg).2
    exact ⟨xs, own_keep ho (fun g hg => hk g (hS g hg) (hl2 g hg)), fun g hg => hs g (hS g hg) (hl2 g hg), All2.mono (SNd.keep hk hs d) ts xs ha⟩

theorem SNd.form {w : World} {S : Nat → Prop} : ∀ {d : Nat} {t : T d} {x : Int × Value}, SNd w S d t x → ∃ A k c, x.2 = .slice A k c
  | 0, _, _, h => h.2.2
  | _ + 1, _, _, ⟨_, ho, _⟩ => own_form ho

/-- A block of one node's two cells. -/
def Two (w : World) (b : Nat) (x y : Value) : Prop := w.heap[b]? = some (.cells #[x, y] 50 (0, 0))
section
variable {w w' : World} {b : Nat} {x y : Value}
theorem Two.c0 (h : Two w b x y) : w.cell? ⟨b, 0, none⟩ = some x := cell_of_row w b 0 _ _ (0, 0) h
theorem Two.c1 (h : Two w b x y) : w.cell? ⟨b, 1, none⟩ = some y := cell_of_row w b 1 _ _ (0, 0) h
theorem Two.f (h : Two w b x y) (i : Nat) : w.frozen? ⟨b, i, none⟩ = false := by
  unfold Two at h
  simp [World.frozen?, h]
theorem Two.lt (h : Two w b x y) : b < w.heap.size := by
  rcases Nat.lt_or_ge b w.heap.size with hlt | hge
  · exact hlt
  · unfold Two at h; rw [Array.getElem?_eq_none hge] at h; cases h
theorem Two.drewN (h : Two w b x y) (n : Nat) : Two (w.drewN n) b x y := h
theorem Two.set0 (h : Two w b x y) (u : Value) : Two (w.setCell ⟨b, 0, none⟩ u) b u y := by
  unfold Two at h ⊢
  simp [World.setCell, Array.getElem?_modify, h]
theorem Two.set1 (h : Two w b x y) (u : Value) : Two (w.setCell ⟨b, 1, none⟩ u) b x u := by
  unfold Two at h ⊢
  simp [World.setCell, Array.getElem?_modify, h]
theorem Two.far (h : Two w b x y) {k i : Nat} (hk : b ≠ k) (u : Value) : Two (w.setCell ⟨k, i, none⟩ u) b x y := (Below.heap_setCell _ _ _ _ hk).trans h
theorem Two.alloc (h : Two w b x y) (o : Obj) : Two (w.alloc o) b x y := (Below.heap_alloc w o b h.lt).trans h
theorem Two.grown {row : Option Nat} (h : Two w b x y) (hg : w.grownBy w' row) (hne : some b ≠ row) : Two w' b x y := (hg.block b h.lt hne).trans h
theorem two_new (w : World) {k : Nat} (x y : Value) (hk : w.heap.size = k) : Two (w.alloc (.cells #[x, y] 50)) k x y := by
  subst hk
  exact heap_alloc_new _ _
end

/-- The blocks that node makes first: its result, an empty row, and its variable. -/
structure Begun (w w3 : World) : Prop where
  gr : w.grownBy w3 none
  size : w3.heap.size = w.heap.size + 3
  res : Two w3 w.heap.size (.int .i64 0) (.slice none 0 0)
  out : Two w3 (w.heap.size + 1 + 1) (.int .i64 0) (.slice (some ⟨w.heap.size + 1, 0, none⟩) 0 0)
  own : w3.ownsRow w.heap.size 50 2 (.slice (some ⟨w.heap.size + 1, 0, none⟩) 0 0) 0 []
theorem begun (w : World) : Begun w (((w.alloc (.cells #[.int .i64 0, .slice none 0 0] 50)).alloc (.cells #[] 50)).alloc (.cells #[.int .i64 0, .slice (some ⟨w.heap.size + 1, 0, none⟩) 0 0] 50)) := by
  have e1 : (w.alloc (.cells #[.int .i64 0, .slice none 0 0] 50)).heap.size = w.heap.size + 1 := by simp
  refine ⟨(World.grownBy_alloc _ _ _).trans ((World.grownBy_alloc _ _ _).trans (World.grownBy_alloc _ _ _)), by simp, ((two_new w _ _ rfl).alloc _).alloc _, two_new _ _ _ (by simp), ?_⟩
  have h := World.ownsRow_made (base := w.heap.size) (e := 50) (size := 2) (w.alloc (.cells #[.int .i64 0, .slice none 0 0] 50)) #[] 0 (by omega) (by simp) (by simp)
  rw [e1] at h
  exact h.alloc _

theorem gr_set_row {w w1 : World} {b i g : Nat} (h : w.grownBy w1 (some g)) (hb : w.heap.size ≤ b) (u : Value) : w.grownBy (w1.setCell ⟨b, i, none⟩ u) (some g) :=
  ⟨h.os, h.tape, h.output, Nat.le_trans h.size (gr_set w1 b i u).size, fun k hk hne => (Below.heap_setCell _ _ _ _ (by show k ≠ b; omega)).trans (h.block k hk hne)⟩
theorem gr_some {w w1 w2 : World} {g : Nat} (h : w.grownBy w1 none) (h2 : w1.grownBy w2 (some g)) : w.grownBy w2 (some g) :=
  ⟨h2.os.trans h.os, h2.tape.trans h.tape, h2.output.trans h.output, Nat.le_trans h.size h2.size, fun k hk hne => (h2.block k (Nat.lt_of_lt_of_le hk h.size) hne).trans (h.block k hk (by simp))⟩
/-- The variable is laid into the result: the world that node leaves. -/
def laidOut' (w w2 : World) (sv : Value) : World := (w2.setCell ⟨w.heap.size, 0, none⟩ (.int .i64 0)).setCell ⟨w.heap.size, 1, none⟩ sv
theorem laid_heap (w w2 : World) (sv : Value) (b : Nat) (hb : b ≠ w.heap.size) : (laidOut' w w2 sv).heap[b]? = w2.heap[b]? := by
  unfold laidOut'
  rw [Below.heap_setCell _ _ _ _ (by show b ≠ w.heap.size; exact hb), Below.heap_setCell _ _ _ _ (by show b ≠ w.heap.size; exact hb)]

end Go.Proofs.YtachjodnhgmoiaaGreatDoor
