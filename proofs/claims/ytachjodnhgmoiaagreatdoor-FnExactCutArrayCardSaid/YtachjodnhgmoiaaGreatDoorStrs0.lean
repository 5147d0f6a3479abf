/- The array reader and digits. -/
import Derived.Test.YtachjodnhgmoiaaGreatDoorStrsF
import Derived.Test.YtachjodnhgmoiaaGreatDoorTxt
import Derived.Test.YtachjodnhgmoiaaGreatDoorDig
namespace Go.Proofs.YtachjodnhgmoiaaGreatDoor
section
open Go.RowKit

/-- The array reader at block g: its text and its place. -/
def Rdr (w : World) (g : Nat) (s : ByteArray) (p : Nat) : Prop := RdrT 116 w g s p

section
variable {w w' : World} {g p : Nat} {s : ByteArray}
theorem Rdr.c0 (h : Rdr w g s p) : w.cell? ⟨g, 0, none⟩ = some (.string s) := RdrT.c0 h
theorem Rdr.c1 (h : Rdr w g s p) : w.cell? ⟨g, 1, none⟩ = some (.int .i64 p) := RdrT.c1 h
theorem Rdr.f (h : Rdr w g s p) (i : Nat) : w.frozen? ⟨g, i, none⟩ = false := RdrT.f h i
theorem Rdr.lt (h : Rdr w g s p) : g < w.heap.size := RdrT.lt h
theorem Rdr.drewN (h : Rdr w g s p) (n : Nat) : Rdr (w.drewN n) g s p := h
theorem Rdr.drew (h : Rdr w g s p) : Rdr w.drew g s p := h
theorem Rdr.set1 (h : Rdr w g s p) (q : Nat) : Rdr (w.setCell ⟨g, 1, none⟩ (.int .i64 q)) g s q := RdrT.set1 h q
theorem Rdr.alloc (h : Rdr w g s p) (o : Obj) : Rdr (w.alloc o) g s p := RdrT.alloc h o
theorem Rdr.grown {row : Option Nat} (h : Rdr w g s p) (hg : w.grownBy w' row) (hne : some g ≠ row) : Rdr w' g s p := RdrT.grown h hg hne
end

set_option maxHeartbeats 400000 in
theorem digit_any (g p : Nat) (s : ByteArray) (w : World) (h : Rdr w g s p) (b : Bool) (hb : dg s p = b) :
    Calls Tryz.prog 103 #[.pointer (some ⟨g, 0, none⟩)] w fun e w' => e = .returned (.bool b) ∧ ∃ n, w' = w.drewN n := by
  have h0 := h.c0
  have h1 := h.c1
  rcases Nat.lt_or_ge p s.size with hp | hp
  · have hd : decide (p < s.size) = true := by simp; omega
    have HD := Lib.hid (fun w => isdigit_any ((s[p].toNat : Nat) : Int) b (by rw [← ba_in hp]; exact hb) w)
    clear hb
    go_enter Tryz.func103, Tryz.ntmps103
    go_wp2_with fail
    go_quiet ((go_at_call 112; exact Calls.quiet_of_same (HD.out _)))
    go_wp2_with fail
    go_ret
    exact ⟨rfl, _, rfl⟩
  · have hd : decide (p < s.size) = false := by simp; omega
    obtain rfl : b = false := by
      rw [← hb]; unfold dg; rw [ba_out hp]; rfl
    clear hb
    go_enter Tryz.func103, Tryz.ntmps103
    go_wp2_with fail
    go_quiet (fail)
    go_wp2_with fail
    go_ret
    exact ⟨rfl, _, rfl⟩
end

end Go.Proofs.YtachjodnhgmoiaaGreatDoor
