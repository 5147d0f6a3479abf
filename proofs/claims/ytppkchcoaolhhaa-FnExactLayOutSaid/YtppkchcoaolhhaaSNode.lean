/- What the model's node does: the array of a depth that stands at the place, as structs in memory, or the mark that something is wrong. -/
import Derived.Test.YtppkchcoaolhhaaSNum
import Derived.Test.YtppkchcoaolhhaaRep
namespace Go.Proofs.Ytppkchcoaolhhaa
open Go.RowKit

def flat2 : List (Int × Value) → List Value
  | [] => []
  | (m, sv) :: l => .int .i64 m :: sv :: flat2 l
theorem flat2_length : ∀ l, (flat2 l).length = l.length * 2
  | [] => rfl
  | (m, sv) :: l => by simp [flat2, flat2_length l]; omega
theorem flat2_snoc (m : Int) (sv : Value) : ∀ l, flat2 (l ++ [(m, sv)]) = flat2 l ++ [.int .i64 m, sv]
  | [] => rfl
  | (a, b) :: l => by simp [flat2, flat2_snoc m sv l]

/-- The model's node: its number, and its parts in a row. Its blocks are among S. -/
def SNd (w : World) (S : Nat → Prop) : (d : Nat) → T d → Int × Value → Prop
  | 0, n, x => x.1 = (show Nat from n : Nat) ∧ (show Nat from n) < 10007 ∧ ∃ A k c, x.2 = .slice A k c
  | d + 1, ts, x => ∃ xs, w.ownsRow 0 82 2 x.2 xs.length (flat2 xs) ∧ (∀ g, x.2.ownBlock = some g → S g) ∧ All2 (SNd w S d) ts xs

theorem SNd.keep {w w' : World} {S S' : Nat → Prop} (hk : ∀ b, S b → b < w.heap.size → w'.heap[b]? = w.heap[b]?) (hs : ∀ b, S b → b < w.heap.size → S' b) : ∀ (d : Nat) (t : T d) (x : Int × Value), SNd w S d t x → SNd w' S' d t x
  | 0, _, _, h => h
  | d + 1, ts, x, ⟨xs, ho, hS, ha⟩ => by
    have hl2 : ∀ g, x.2.ownBlock = some g → g < w.heap.size := fun g hg => (ho.lt g hg).2
    exact ⟨xs, own_keep ho (fun g hg => hk g (hS g hg) (hl2 g hg)), fun g hg => hs g (hS g hg) (hl2 g hg), All2.mono (SNd.keep hk hs d) ts xs ha⟩

theorem SNd.form {w : World} {S : Nat → Prop} : ∀ {d : Nat} {t : T d} {x : Int × Value}, SNd w S d t x → ∃ A k c, x.2 = .slice A k c
  | 0, _, _, h => h.2.2
  | _ + 1, _, _, ⟨_, ho, _⟩ => own_form ho

/-- How node ends. -/
def SArrPost (s : ByteArray) (d p g : Nat) (w : World) (e : Ending) (w' : World) : Prop :=
  w.grownBy w' (some g) ∧ ∃ m sv, e = .returned (.agg #[.int .i64 m, sv]) ∧ (∃ A k c, sv = .slice A k c) ∧
    ((∃ t q, node s d p = some (t, q) ∧ SRdr w' g s q false ∧ SNd w' (fun b => w.heap.size ≤ b) d t (m, sv)) ∨ (node s d p = none ∧ ∃ q, SRdr w' g s q true))

/-- A block of one node's two cells. -/
def Two (w : World) (b : Nat) (x y : Value) : Prop := w.heap[b]? = some (.cells #[x, y] 82 (0, 0))
section
variable {w w' : World} {b : Nat} {x y : Value}
theorem Two.c0 (h : Two w b x y) : w.cell? ⟨b, 0, none⟩ = some x := cell_of_row w b 0 _ _ (0, 0) h
theorem Two.c1 (h : Two w b x y) : w.cell? ⟨b, 1, none⟩ = some y := cell_of_row w b 1 _ _ (0, 0) h
theorem Two.f (h : Two w b x y) (i : Nat) : w.frozen? ⟨b, i, none⟩ = false := by
  unfold Two at h
  simp [World.frozen?, h]
theorem Two.lt (h : Two w b x y) : b < w.heap.size := by
  rcases Nat.lt_or_ge b w.heap.size with hlt | hge
  · exact hlt
  · unfold Two at h; rw [Array.getElem?_eq_none hge] at h; cases h
theorem Two.drewN (h : Two w b x y) (n : Nat) : Two (w.drewN n) b x y := h
theorem Two.set0 (h : Two w b x y) (u : Value) : Two (w.setCell ⟨b, 0, none⟩ u) b u y := by
  unfold Two at h ⊢
  simp [World.setCell, Array.getElem?_modify, h]
theorem Two.set1 (h : Two w b x y) (u : Value) : Two (w.setCell ⟨b, 1, none⟩ u) b x u := by
  unfold Two at h ⊢
  simp [World.setCell, Array.getElem?_modify, h]
theorem Two.far (h : Two w b x y) {k i : Nat} (hk : b ≠ k) (u : Value) : Two (w.setCell ⟨k, i, none⟩ u) b x y := (Below.heap_setCell _ _ _ _ hk).trans h
theorem Two.alloc (h : Two w b x y) (o : Obj) : Two (w.alloc o) b x y := (Below.heap_alloc w o b h.lt).trans h
theorem Two.grown {row : Option Nat} (h : Two w b x y) (hg : w.grownBy w' row) (hne : some b ≠ row) : Two w' b x y := (hg.block b h.lt hne).trans h
theorem two_new (w : World) {k : Nat} (x y : Value) (hk : w.heap.size = k) : Two (w.alloc (.cells #[x, y] 82)) k x y := by
  subst hk
  exact heap_alloc_new _ _
end

theorem SRdr.far {w : World} {g p : Nat} {s : ByteArray} {b : Bool} (h : SRdr w g s p b) {k i : Nat} (hk : g ≠ k) (u : Value) : SRdr (w.setCell ⟨k, i, none⟩ u) g s p b := (Below.heap_setCell _ _ _ _ hk).trans h
theorem SRdr.drew {w : World} {g p : Nat} {s : ByteArray} {b : Bool} (h : SRdr w g s p b) : SRdr w.drew g s p b := h

/-- The blocks that node makes first: its result, an empty row, and its variable. -/
structure Begun (w w3 : World) : Prop where
  gr : w.grownBy w3 none
  size : w3.heap.size = w.heap.size + 3
  res : Two w3 w.heap.size (.int .i64 0) (.slice none 0 0)
  out : Two w3 (w.heap.size + 1 + 1) (.int .i64 0) (.slice (some ⟨w.heap.size + 1, 0, none⟩) 0 0)
  own : w3.ownsRow w.heap.size 82 2 (.slice (some ⟨w.heap.size + 1, 0, none⟩) 0 0) 0 []
theorem begun (w : World) : Begun w (((w.alloc (.cells #[.int .i64 0, .slice none 0 0] 82)).alloc (.cells #[] 82)).alloc (.cells #[.int .i64 0, .slice (some ⟨w.heap.size + 1, 0, none⟩) 0 0] 82)) := by
  have e1 : (w.alloc (.cells #[.int .i64 0, .slice none 0 0] 82)).heap.size = w.heap.size + 1 := by simp
  refine ⟨(World.grownBy_alloc _ _ _).trans ((World.grownBy_alloc _ _ _).trans (World.grownBy_alloc _ _ _)), by simp, ((two_new w _ _ rfl).alloc _).alloc _, two_new _ _ _ (by simp), ?_⟩
  have h := World.ownsRow_made (base := w.heap.size) (e := 82) (size := 2) (w.alloc (.cells #[.int .i64 0, .slice none 0 0] 82)) #[] 0 (by omega) (by simp) (by simp)
  rw [e1] at h
  exact h.alloc _

/-- A world behind node's first blocks, in which the reader has gone on: what node's end needs. -/
theorem sarr_ok {s : ByteArray} {d p g q : Nat} {w w' : World} {e : Ending} {m : Int} {A : Option Addr} {k c : Nat} {t : T d} (hg : w.grownBy w' (some g)) (he : e = .returned (.agg #[.int .i64 m, .slice A k c])) (hn : node s d p = some (t, q)) (hr : SRdr w' g s q false)
    (ha : SNd w' (fun b => w.heap.size ≤ b) d t (m, .slice A k c)) : SArrPost s d p g w e w' := ⟨hg, m, _, he, ⟨_, _, _, rfl⟩, .inl ⟨t, q, hn, hr, ha⟩⟩
theorem sarr_bad {s : ByteArray} {d p g q : Nat} {w w' : World} {e : Ending} {m : Int} {A : Option Addr} {k c : Nat} (hg : w.grownBy w' (some g)) (he : e = .returned (.agg #[.int .i64 m, .slice A k c])) (hn : node s d p = none) (hr : SRdr w' g s q true) :
    SArrPost s d p g w e w' := ⟨hg, m, _, he, ⟨_, _, _, rfl⟩, .inr ⟨hn, q, hr⟩⟩

theorem gr_set_row {w w1 : World} {b i g : Nat} (h : w.grownBy w1 (some g)) (hb : w.heap.size ≤ b) (u : Value) : w.grownBy (w1.setCell ⟨b, i, none⟩ u) (some g) :=
  ⟨h.os, h.tape, h.output, Nat.le_trans h.size (gr_set w1 b i u).size, fun k hk hne => (Below.heap_setCell _ _ _ _ (by show k ≠ b; omega)).trans (h.block k hk hne)⟩
theorem gr_some {w w1 w2 : World} {g : Nat} (h : w.grownBy w1 none) (h2 : w1.grownBy w2 (some g)) : w.grownBy w2 (some g) :=
  ⟨h2.os.trans h.os, h2.tape.trans h.tape, h2.output.trans h.output, Nat.le_trans h.size h2.size, fun k hk hne => (h2.block k (Nat.lt_of_lt_of_le hk h.size) hne).trans (h.block k hk (by simp))⟩

set_option maxHeartbeats 400000 in
theorem snode0 (g p : Nat) (s : ByteArray) (w : World) (h : SRdr w g s p false) (hs : s.size ≤ 400) (hp : p ≤ s.size) :
    Calls Try.prog 76 #[.pointer (some ⟨g, 0, none⟩), .int .i64 0] w (SArrPost s 0 p g w) := by
  have HR := Lib.hid h
  have hgw := h.lt
  clear h
  go_enter Try.func76, Try.ntmps76
  go_wp2_with fail
  refine (snumber_any g p s _ (((HR.out.alloc _).alloc _).alloc _) hs hp).mono ?_
  have HB := Lib.hid (begun w)
  generalize ((w.alloc (.cells #[.int .i64 0, .slice none 0 0] 82)).alloc (.cells #[] 82)).alloc (.cells #[.int .i64 0, .slice (some ⟨w.heap.size + 1, 0, none⟩) 0 0] 82) = w3 at HB
  rintro e w4 ⟨hg4, n, rfl, hcase⟩
  have hz3 := HB.out.size
  have HG4 := Lib.hid hg4
  have HRES := Lib.hid (HB.out.res.grown hg4 (by simp; omega))
  have HOUT := Lib.hid (HB.out.out.grown hg4 (by simp; omega))
  have HCASE := Lib.hid hcase
  have r0 := HRES.out.c0
  have r1 := HRES.out.c1
  have o0 := HOUT.out.c0
  have o1 := HOUT.out.c1
  have f0 := HRES.out.f 0
  have f1 := HRES.out.f 1
  have f2 := HOUT.out.f 0
  clear hg4 hcase
  go_wp2_with fail
  refine bodyPost_ret (v := .agg #[.int .i64 n, .slice (some ⟨w.heap.size + 1, 0, none⟩) 0 0]) (by simp [results, Try.results76, go_sem, r0, r1]) rfl ?_
  have hga := gr_some HB.out.gr HG4.out
  have hgb := gr_set_row (gr_set_row (gr_set_row (i := 0) (b := w.heap.size + 1 + 1) hga (by omega) (.int .i64 n)) (i := 0) (Nat.le_refl _) (.int .i64 n)) (i := 1) (Nat.le_refl _) (.slice (some ⟨w.heap.size + 1, 0, none⟩) 0 0)
  rcases HCASE.out with ⟨v, q, hn, hv, hr⟩ | ⟨hn, q, hr⟩
  · exact sarr_ok (d := 0) (t := v) hgb rfl hn (((hr.far (by omega) _).far (by omega) _).far (by omega) _) ⟨hv, (num_ge hn).2.2, _, _, _, rfl⟩
  · exact sarr_bad (d := 0) hgb rfl hn (((hr.far (by omega) _).far (by omega) _).far (by omega) _)

end Go.Proofs.Ytppkchcoaolhhaa
