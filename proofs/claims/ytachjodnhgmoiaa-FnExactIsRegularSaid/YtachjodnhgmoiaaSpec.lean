/- What the model's reader does: l1In, is, l13Num on digits, and number, for every text of at most 400 bytes. -/
import Derived.Test.YtachjodnhgmoiaaStrs0
import Derived.Test.YtachjodnhgmoiaaIn
import Derived.IntWalk
namespace Go.Proofs.Ytachjodnhgmoiaa
open Go.RowKit

/-- The model's reader at block g: its text, its place, and whether something was wrong. -/
def SRdr (w : World) (g : Nat) (s : ByteArray) (p : Nat) (b : Bool) : Prop := w.heap[g]? = some (.cells #[.string s, .int .i64 p, .bool b] 86 (0, 0))

section
variable {w w' : World} {g p : Nat} {s : ByteArray} {b : Bool}
theorem SRdr.c0 (h : SRdr w g s p b) : w.cell? ⟨g, 0, none⟩ = some (.string s) := cell_of_row w g 0 _ _ (0, 0) h
theorem SRdr.c1 (h : SRdr w g s p b) : w.cell? ⟨g, 1, none⟩ = some (.int .i64 p) := cell_of_row w g 1 _ _ (0, 0) h
theorem SRdr.c2 (h : SRdr w g s p b) : w.cell? ⟨g, 2, none⟩ = some (.bool b) := cell_of_row w g 2 _ _ (0, 0) h
theorem SRdr.f (h : SRdr w g s p b) (i : Nat) : w.frozen? ⟨g, i, none⟩ = false := by
  unfold SRdr at h
  simp [World.frozen?, h]
theorem SRdr.lt (h : SRdr w g s p b) : g < w.heap.size := by
  rcases Nat.lt_or_ge g w.heap.size with hlt | hge
  · exact hlt
  · unfold SRdr at h; rw [Array.getElem?_eq_none hge] at h; cases h
theorem SRdr.drewN (h : SRdr w g s p b) (n : Nat) : SRdr (w.drewN n) g s p b := h
theorem SRdr.set1 (h : SRdr w g s p b) (q : Nat) : SRdr (w.setCell ⟨g, 1, none⟩ (.int .i64 q)) g s q b := by
  unfold SRdr at h ⊢
  simp [World.setCell, Array.getElem?_modify, h]
theorem SRdr.set2 (h : SRdr w g s p b) (c : Bool) : SRdr (w.setCell ⟨g, 2, none⟩ (.bool c)) g s p c := by
  unfold SRdr at h ⊢
  simp [World.setCell, Array.getElem?_modify, h]
theorem SRdr.alloc (h : SRdr w g s p b) (o : Obj) : SRdr (w.alloc o) g s p b := (Below.heap_alloc w o g h.lt).trans h
theorem SRdr.grown {row : Option Nat} (h : SRdr w g s p b) (hg : w.grownBy w' row) (hne : some g ≠ row) : SRdr w' g s p b := (hg.block g h.lt hne).trans h
end

/-- The place of the reader, out of the world: a loop's measure. -/
def plcS (w : World) (g : Nat) : Nat := match w.cell? ⟨g, 1, none⟩ with
  | some v => (intOf v).toNat
  | none => 0
theorem plcS_drewN (w : World) (g n : Nat) : plcS (w.drewN n) g = plcS w g := rfl

set_option maxHeartbeats 400000 in
theorem is_out (g p : Nat) (s : ByteArray) (c : Int) (bad : Bool) (w : World) (h : SRdr w g s p bad) (hp : s.size ≤ p) :
    Calls Try.prog 45 #[.pointer (some ⟨g, 0, none⟩), .int .u8 c] w fun e w' => e = .returned (.bool false) ∧ ∃ n, w' = w.drewN n := by
  have h0 := h.c0
  have h1 := h.c1
  have hd : decide (p < s.size) = false := by simp; omega
  go_enter Try.func45, Try.ntmps45
  go_wp2_with fail
  go_quiet (fail)
  go_wp2_with fail
  go_ret
  exact ⟨rfl, _, rfl⟩

set_option maxHeartbeats 400000 in
theorem is_no (g p : Nat) (s : ByteArray) (c : Int) (bad : Bool) (w : World) (h : SRdr w g s p bad) (hc : ba s p ≠ c) :
    Calls Try.prog 45 #[.pointer (some ⟨g, 0, none⟩), .int .u8 c] w fun e w' => e = .returned (.bool false) ∧ ∃ n, w' = w.drewN n := by
  rcases Nat.lt_or_ge p s.size with hp | hp
  · have h0 := h.c0
    have h1 := h.c1
    have hd : decide (p < s.size) = true := by simp; omega
    have hb : ((s[p].toNat : Int) == c) = false := by rw [beq_eq_false_iff_ne, ← ba_in hp]; exact hc
    clear hc
    go_enter Try.func45, Try.ntmps45
    go_wp2_with fail
    go_quiet (fail)
    go_wp2_with fail
    go_ret
    exact ⟨rfl, _, rfl⟩
  · exact is_out g p s c bad w h hp

set_option maxHeartbeats 400000 in
theorem is_yes (g p : Nat) (s : ByteArray) (c : Int) (bad : Bool) (w : World) (h : SRdr w g s p bad) (h0c : 0 ≤ c) (hc : ba s p = c) (hs : s.size ≤ 400) :
    Calls Try.prog 45 #[.pointer (some ⟨g, 0, none⟩), .int .u8 c] w fun e w' => e = .returned (.bool true) ∧ SRdr w' g s (p + 1) bad ∧ w.grownBy w' (some g) := by
  have hp : p < s.size := ba_lt (by omega)
  have h0 := h.c0
  have h1 := h.c1
  have hf := h.f 1
  have hd : decide (p < s.size) = true := by simp; omega
  have hb : ((s[p].toNat : Int) == c) = true := by rw [beq_iff_eq, ← ba_in hp]; exact hc
  clear hc
  go_enter Try.func45, Try.ntmps45
  go_wp2_with fail
  go_quiet (fail)
  go_wp2_with fail
  go_ret
  refine ⟨rfl, ?_, ?_⟩
  · have := (h.drewN nq).set1 (p + 1)
    simpa using this
  · exact (gr_drewN w nq _).trans (gr_set _ _ _ _)

end Go.Proofs.Ytachjodnhgmoiaa
