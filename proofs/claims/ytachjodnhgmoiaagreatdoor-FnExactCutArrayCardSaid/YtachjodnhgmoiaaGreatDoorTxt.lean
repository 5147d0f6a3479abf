/- What the text reader's methods of the program do (sees, take, end), embedded in a reader of whatever type: the callers' contracts, for every text and place. -/
import Derived.Test.YtachjodnhgmoiaaGreatDoorGr
import Derived.Test.YtachjodnhgmoiaaGreatDoorByte
import Derived.WalkKit
import Derived.WalkSpells
import Derived.WalkLawsBesides
import Derived.Deep.QuietTactic
import Derived.BigQuiet
import Derived.Lib.Hide
import Derived.Maps.AppendAt
namespace Go.Proofs.YtachjodnhgmoiaaGreatDoor
open Go.RowKit

/-- The reader of a type at block g: its text and its place. -/
def RdrT (ty : TypeId) (w : World) (g : Nat) (s : ByteArray) (p : Nat) : Prop := w.heap[g]? = some (.cells #[.string s, .int .i64 p] ty (0, 0))

section
variable {ty : TypeId} {w w' : World} {g p : Nat} {s : ByteArray}
theorem RdrT.c0 (h : RdrT ty w g s p) : w.cell? ⟨g, 0, none⟩ = some (.string s) := cell_of_row w g 0 _ _ (0, 0) h
theorem RdrT.c1 (h : RdrT ty w g s p) : w.cell? ⟨g, 1, none⟩ = some (.int .i64 p) := cell_of_row w g 1 _ _ (0, 0) h
theorem RdrT.f (h : RdrT ty w g s p) (i : Nat) : w.frozen? ⟨g, i, none⟩ = false := by
  unfold RdrT at h
  simp [World.frozen?, h]
theorem RdrT.lt (h : RdrT ty w g s p) : g < w.heap.size := by
  rcases Nat.lt_or_ge g w.heap.size with hlt | hge
  · exact hlt
  · unfold RdrT at h; rw [Array.getElem?_eq_none hge] at h; cases h
theorem RdrT.drewN (h : RdrT ty w g s p) (n : Nat) : RdrT ty (w.drewN n) g s p := h
theorem RdrT.drew (h : RdrT ty w g s p) : RdrT ty w.drew g s p := h
theorem RdrT.set1 (h : RdrT ty w g s p) (q : Nat) : RdrT ty (w.setCell ⟨g, 1, none⟩ (.int .i64 q)) g s q := by
  unfold RdrT at h ⊢
  simp [World.setCell, Array.getElem?_modify, h]
theorem RdrT.alloc (h : RdrT ty w g s p) (o : Obj) : RdrT ty (w.alloc o) g s p := (Below.heap_alloc w o g h.lt).trans h
theorem RdrT.grown {row : Option Nat} (h : RdrT ty w g s p) (hg : w.grownBy w' row) (hne : some g ≠ row) : RdrT ty w' g s p := (hg.block g h.lt hne).trans h
end

set_option maxHeartbeats 400000 in
theorem sees_out {ty : TypeId} (g p : Nat) (s : ByteArray) (c : Int) (w : World) (h : RdrT ty w g s p) (hp : s.size ≤ p) :
    Calls Tryz.prog 104 #[.pointer (some ⟨g, 0, none⟩), .int .u8 c] w fun e w' => e = .returned (.bool false) ∧ ∃ n, w' = w.drewN n := by
  have h0 := h.c0
  have h1 := h.c1
  have hd : decide (p < s.size) = false := by simp; omega
  go_enter Tryz.func104, Tryz.ntmps104
  go_wp2_with fail
  go_quiet (fail)
  go_wp2_with fail
  go_ret
  exact ⟨rfl, _, rfl⟩

set_option maxHeartbeats 400000 in
theorem sees_in {ty : TypeId} (g p : Nat) (s : ByteArray) (c : Int) (w : World) (h : RdrT ty w g s p) (hp : p < s.size) :
    Calls Tryz.prog 104 #[.pointer (some ⟨g, 0, none⟩), .int .u8 c] w fun e w' => e = .returned (.bool ((s[p].toNat : Int) == c)) ∧ ∃ n, w' = w.drewN n := by
  have h0 := h.c0
  have h1 := h.c1
  have hd : decide (p < s.size) = true := by simp; omega
  go_enter Tryz.func104, Tryz.ntmps104
  go_wp2_with fail
  go_quiet (fail)
  go_wp2_with fail
  go_ret
  exact ⟨rfl, _, rfl⟩

theorem sees_yes {ty : TypeId} (g p : Nat) (s : ByteArray) (c : Int) (w : World) (h : RdrT ty w g s p) (h0 : 0 ≤ c) (hc : ba s p = c) :
    Calls Tryz.prog 104 #[.pointer (some ⟨g, 0, none⟩), .int .u8 c] w fun e w' => e = .returned (.bool true) ∧ ∃ n, w' = w.drewN n := by
  have hp : p < s.size := ba_lt (by omega)
  refine (sees_in g p s c w h hp).mono fun e w' ⟨he, hw⟩ => ⟨?_, hw⟩
  rw [ba_in hp] at hc
  rw [he, beq_iff_eq.2 hc]

theorem sees_no {ty : TypeId} (g p : Nat) (s : ByteArray) (c : Int) (w : World) (h : RdrT ty w g s p) (hc : ba s p ≠ c) :
    Calls Tryz.prog 104 #[.pointer (some ⟨g, 0, none⟩), .int .u8 c] w fun e w' => e = .returned (.bool false) ∧ ∃ n, w' = w.drewN n := by
  rcases Nat.lt_or_ge p s.size with hp | hp
  · refine (sees_in g p s c w h hp).mono fun e w' ⟨he, hw⟩ => ⟨?_, hw⟩
    rw [ba_in hp] at hc
    rw [he, beq_eq_false_iff_ne.2 hc]
  · exact sees_out g p s c w h hp

theorem sees_any {ty : TypeId} (g p : Nat) (s : ByteArray) (c : Int) (w : World) (h : RdrT ty w g s p) (h0 : 0 ≤ c) (b : Bool) (hb : decide (ba s p = c) = b) :
    Calls Tryz.prog 104 #[.pointer (some ⟨g, 0, none⟩), .int .u8 c] w fun e w' => e = .returned (.bool b) ∧ ∃ n, w' = w.drewN n := by
  cases b with
  | true => exact sees_yes g p s c w h h0 (by simpa using hb)
  | false => exact sees_no g p s c w h (by simpa using hb)

/-- The end of a run by a panic of the program's own. -/
def Fell (e : Ending) : Prop := ∃ b : ByteArray, e = .panicked [{ v := .iface 9 (.string b), recovered := false }]

set_option maxHeartbeats 400000 in
theorem take_yes {ty : TypeId} (g p : Nat) (s : ByteArray) (c : Int) (w : World) (h : RdrT ty w g s p) (h0 : 0 ≤ c) (hc : ba s p = c) (hs : s.size ≤ 400) :
    Calls Tryz.prog 105 #[.pointer (some ⟨g, 0, none⟩), .int .u8 c] w fun e w' => e = .returned (.tuple #[]) ∧ RdrT ty w' g s (p + 1) ∧ w.grownBy w' (some g) := by
  have hp : p < s.size := ba_lt (by omega)
  have h1 := h.c1
  have hf := h.f 1
  have hc' := sees_yes g p s c w h h0 hc
  have H := Lib.hid hc'
  clear hc' hc
  go_enter Tryz.func105, Tryz.ntmps105
  go_wp2_with fail
  refine H.out.mono ?_
  rintro e w' ⟨rfl, n, rfl⟩
  go_wp2_with fail
  go_end0
  refine ⟨rfl, ?_, ?_⟩
  · have := (h.drewN n).set1 (p + 1)
    simpa using this
  · exact (gr_drewN w n _).trans (gr_set _ _ _ _)

set_option maxHeartbeats 400000 in
theorem take_no {ty : TypeId} (g p : Nat) (s : ByteArray) (c : Int) (w : World) (h : RdrT ty w g s p) (hc : ba s p ≠ c) :
    Calls Tryz.prog 105 #[.pointer (some ⟨g, 0, none⟩), .int .u8 c] w fun e w' => Fell e ∧ w.grownBy w' (some g) := by
  have hc' := sees_no g p s c w h hc
  have H := Lib.hid hc'
  clear hc' hc
  go_enter Tryz.func105, Tryz.ntmps105
  go_wp2_with fail
  refine H.out.mono ?_
  rintro e w' ⟨rfl, n, rfl⟩
  go_wp2_with fail
  exact ⟨rfl, ⟨_, rfl⟩, gr_drewN w n _⟩

set_option maxHeartbeats 400000 in
theorem end_yes {ty : TypeId} (g p : Nat) (s : ByteArray) (w : World) (h : RdrT ty w g s p) (hp : s.size ≤ p) :
    Calls Tryz.prog 67 #[.pointer (some ⟨g, 0, none⟩)] w fun e w' => e = .returned (.tuple #[]) ∧ ∃ n, w' = w.drewN n := by
  have h0 := h.c0
  have h1 := h.c1
  have hd : decide (p < s.size) = false := by simp; omega
  go_enter Tryz.func67, Tryz.ntmps67
  go_wp2_with fail
  go_quiet (fail)
  go_wp2_with fail
  go_end0
  exact ⟨rfl, _, rfl⟩

set_option maxHeartbeats 400000 in
theorem end_no {ty : TypeId} (g p : Nat) (s : ByteArray) (w : World) (h : RdrT ty w g s p) (hp : p < s.size) :
    Calls Tryz.prog 67 #[.pointer (some ⟨g, 0, none⟩)] w fun e w' => Fell e ∧ w.grownBy w' (some g) := by
  have h0 := h.c0
  have h1 := h.c1
  have hd : decide (p < s.size) = true := by simp; omega
  go_enter Tryz.func67, Tryz.ntmps67
  go_wp2_with fail
  go_quiet (fail)
  go_wp2_with fail
  exact ⟨rfl, ⟨_, rfl⟩, gr_drewN w _ _⟩

end Go.Proofs.YtachjodnhgmoiaaGreatDoor
