/- What the model's node does: the array of a depth that stands at the place, as structs in memory, or the mark that something is wrong. -/
import Derived.Test.YtachjodnhgmoiaaSNd
import Derived.Test.YtachjodnhgmoiaaSNum
import Derived.Test.YtachjodnhgmoiaaRep
namespace Go.Proofs.Ytachjodnhgmoiaa
open Go.RowKit

/-- How node ends. -/
def SArrPost (s : ByteArray) (d p g : Nat) (w : World) (e : Ending) (w' : World) : Prop :=
  w.grownBy w' (some g) ∧ ∃ m sv, e = .returned (.agg #[.int .i64 m, sv]) ∧ (∃ A k c, sv = .slice A k c) ∧
    ((∃ t q, node s d p = some (t, q) ∧ SRdr w' g s q false ∧ SNd w' (fun b => w.heap.size ≤ b) d t (m, sv)) ∨ (node s d p = none ∧ ∃ q, SRdr w' g s q true))

theorem SRdr.far {w : World} {g p : Nat} {s : ByteArray} {b : Bool} (h : SRdr w g s p b) {k i : Nat} (hk : g ≠ k) (u : Value) : SRdr (w.setCell ⟨k, i, none⟩ u) g s p b := (Below.heap_setCell _ _ _ _ hk).trans h
theorem SRdr.drew {w : World} {g p : Nat} {s : ByteArray} {b : Bool} (h : SRdr w g s p b) : SRdr w.drew g s p b := h

/-- A world behind node's first blocks, in which the reader has gone on: what node's end needs. -/
theorem sarr_ok {s : ByteArray} {d p g q : Nat} {w w' : World} {e : Ending} {m : Int} {A : Option Addr} {k c : Nat} {t : T d} (hg : w.grownBy w' (some g)) (he : e = .returned (.agg #[.int .i64 m, .slice A k c])) (hn : node s d p = some (t, q)) (hr : SRdr w' g s q false)
    (ha : SNd w' (fun b => w.heap.size ≤ b) d t (m, .slice A k c)) : SArrPost s d p g w e w' := ⟨hg, m, _, he, ⟨_, _, _, rfl⟩, .inl ⟨t, q, hn, hr, ha⟩⟩
theorem sarr_bad {s : ByteArray} {d p g q : Nat} {w w' : World} {e : Ending} {m : Int} {A : Option Addr} {k c : Nat} (hg : w.grownBy w' (some g)) (he : e = .returned (.agg #[.int .i64 m, .slice A k c])) (hn : node s d p = none) (hr : SRdr w' g s q true) :
    SArrPost s d p g w e w' := ⟨hg, m, _, he, ⟨_, _, _, rfl⟩, .inr ⟨hn, q, hr⟩⟩

set_option maxHeartbeats 400000 in
theorem snode0 (g p : Nat) (s : ByteArray) (w : World) (h : SRdr w g s p false) (hs : s.size ≤ 400) (hp : p ≤ s.size) :
    Calls Try.prog 38 #[.pointer (some ⟨g, 0, none⟩), .int .i64 0] w (SArrPost s 0 p g w) := by
  have HR := Lib.hid h
  have hgw := h.lt
  clear h
  go_enter Try.func38, Try.ntmps38
  go_wp2_with fail
  refine (snumber_any g p s _ (((HR.out.alloc _).alloc _).alloc _) hs hp).mono ?_
  have HB := Lib.hid (begun w)
  generalize ((w.alloc (.cells #[.int .i64 0, .slice none 0 0] 52)).alloc (.cells #[] 52)).alloc (.cells #[.int .i64 0, .slice (some ⟨w.heap.size + 1, 0, none⟩) 0 0] 52) = w3 at HB
  rintro e w4 ⟨hg4, n, rfl, hcase⟩
  have hz3 := HB.out.size
  have HG4 := Lib.hid hg4
  have HRES := Lib.hid (HB.out.res.grown hg4 (by simp; omega))
  have HOUT := Lib.hid (HB.out.out.grown hg4 (by simp; omega))
  have HCASE := Lib.hid hcase
  have r0 := HRES.out.c0
  have r1 := HRES.out.c1
  have o0 := HOUT.out.c0
  have o1 := HOUT.out.c1
  have f0 := HRES.out.f 0
  have f1 := HRES.out.f 1
  have f2 := HOUT.out.f 0
  clear hg4 hcase
  go_wp2_with fail
  refine bodyPost_ret (v := .agg #[.int .i64 n, .slice (some ⟨w.heap.size + 1, 0, none⟩) 0 0]) (by simp [results, Try.results38, go_sem, r0, r1]) rfl ?_
  have hga := gr_some HB.out.gr HG4.out
  have hgb := gr_set_row (gr_set_row (gr_set_row (i := 0) (b := w.heap.size + 1 + 1) hga (by omega) (.int .i64 n)) (i := 0) (Nat.le_refl _) (.int .i64 n)) (i := 1) (Nat.le_refl _) (.slice (some ⟨w.heap.size + 1, 0, none⟩) 0 0)
  rcases HCASE.out with ⟨v, q, hn, hv, hr⟩ | ⟨hn, q, hr⟩
  · exact sarr_ok (d := 0) (t := v) hgb rfl hn (((hr.far (by omega) _).far (by omega) _).far (by omega) _) ⟨hv, (num_ge hn).2.2, _, _, _, rfl⟩
  · exact sarr_bad (d := 0) hgb rfl hn (((hr.far (by omega) _).far (by omega) _).far (by omega) _)

end Go.Proofs.Ytachjodnhgmoiaa
