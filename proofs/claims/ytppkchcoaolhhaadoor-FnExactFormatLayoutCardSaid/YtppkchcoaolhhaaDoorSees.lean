/- What the reader's small methods of the program do (sees, seesDigit, take, end): the callers' contracts, for every text and place. -/
import Derived.Test.YtppkchcoaolhhaaDoorRows
import Derived.Test.YtppkchcoaolhhaaDoorByte
import Derived.WalkKit
import Derived.WalkSpells
import Derived.WalkLawsBesides
import Derived.Deep.QuietTactic
import Derived.BigQuiet
import Derived.Lib.Hide
import Derived.Maps.AppendAt
namespace Go.Proofs.YtppkchcoaolhhaaDoor
open Go.RowKit

/-- The reader at block g: its text and its place. -/
def Rdr (w : World) (g : Nat) (s : ByteArray) (p : Nat) : Prop := w.heap[g]? = some (.cells #[.string s, .int .i64 p] 104 (0, 0))

section
variable {w w' : World} {g p : Nat} {s : ByteArray}
theorem Rdr.c0 (h : Rdr w g s p) : w.cell? ⟨g, 0, none⟩ = some (.string s) := cell_of_row w g 0 _ _ (0, 0) h
theorem Rdr.c1 (h : Rdr w g s p) : w.cell? ⟨g, 1, none⟩ = some (.int .i64 p) := cell_of_row w g 1 _ _ (0, 0) h
theorem Rdr.f (h : Rdr w g s p) (i : Nat) : w.frozen? ⟨g, i, none⟩ = false := by
  unfold Rdr at h
  simp [World.frozen?, h]
theorem Rdr.lt (h : Rdr w g s p) : g < w.heap.size := by
  rcases Nat.lt_or_ge g w.heap.size with hlt | hge
  · exact hlt
  · unfold Rdr at h; rw [Array.getElem?_eq_none hge] at h; cases h
theorem Rdr.drewN (h : Rdr w g s p) (n : Nat) : Rdr (w.drewN n) g s p := h
theorem Rdr.drew (h : Rdr w g s p) : Rdr w.drew g s p := h
theorem Rdr.set1 (h : Rdr w g s p) (q : Nat) : Rdr (w.setCell ⟨g, 1, none⟩ (.int .i64 q)) g s q := by
  unfold Rdr at h ⊢
  simp [World.setCell, Array.getElem?_modify, h]
theorem Rdr.alloc (h : Rdr w g s p) (o : Obj) : Rdr (w.alloc o) g s p := (Below.heap_alloc w o g h.lt).trans h
theorem Rdr.grown {row : Option Nat} (h : Rdr w g s p) (hg : w.grownBy w' row) (hne : some g ≠ row) : Rdr w' g s p := (hg.block g h.lt hne).trans h
end

theorem gr_refl (w : World) (row : Option Nat) : w.grownBy w row := ⟨rfl, rfl, rfl, Nat.le_refl _, fun _ _ _ => rfl⟩
theorem gr_drewN (w : World) (n : Nat) (row : Option Nat) : w.grownBy (w.drewN n) row := ⟨rfl, rfl, rfl, Nat.le_refl _, fun _ _ _ => rfl⟩
theorem gr_set (w : World) (g i : Nat) (u : Value) : w.grownBy (w.setCell ⟨g, i, none⟩ u) (some g) :=
  ⟨rfl, rfl, rfl, by simp [World.setCell], fun k _ hk => Below.heap_setCell _ _ _ _ (fun e => hk (by simp [e]))⟩

theorem gr_new {w w1 w2 : World} {g : Nat} (h : w.grownBy w1 none) (h2 : w1.grownBy w2 (some g)) (hg : w.heap.size ≤ g) : w.grownBy w2 none :=
  ⟨h2.os.trans h.os, h2.tape.trans h.tape, h2.output.trans h.output, Nat.le_trans h.size h2.size, fun k hk hne => (h2.block k (Nat.lt_of_lt_of_le hk h.size) (by simp; omega)).trans (h.block k hk hne)⟩

/-- A callee that leaves the world alone, met in a region that only reads, where draws went ahead of the region. -/
theorem qsame {P : Program} {f : FuncId} {args : Array Value} {w : World} {k j : Nat} {v : Value} (c : ∀ u : World, Calls P f args u fun e u' => e = .returned v ∧ u' = u) :
    Calls P f args (w.drewN (k + j)) fun e u' => e = .returned v ∧ ∃ m, u' = w.drewN (k + m) :=
  (c _).mono fun _ _ ⟨he, hu⟩ => ⟨he, j, hu⟩

set_option maxHeartbeats 400000 in
theorem sees_out (g p : Nat) (s : ByteArray) (c : Int) (w : World) (h : Rdr w g s p) (hp : s.size ≤ p) :
    Calls Tryd.prog 121 #[.pointer (some ⟨g, 0, none⟩), .int .u8 c] w fun e w' => e = .returned (.bool false) ∧ ∃ n, w' = w.drewN n := by
  have h0 := h.c0
  have h1 := h.c1
  have hd : decide (p < s.size) = false := by simp; omega
  go_enter Tryd.func121, Tryd.ntmps121
  go_wp2_with fail
  go_quiet (fail)
  go_wp2_with fail
  go_ret
  exact ⟨rfl, _, rfl⟩

set_option maxHeartbeats 400000 in
theorem sees_in (g p : Nat) (s : ByteArray) (c : Int) (w : World) (h : Rdr w g s p) (hp : p < s.size) :
    Calls Tryd.prog 121 #[.pointer (some ⟨g, 0, none⟩), .int .u8 c] w fun e w' => e = .returned (.bool ((s[p].toNat : Int) == c)) ∧ ∃ n, w' = w.drewN n := by
  have h0 := h.c0
  have h1 := h.c1
  have hd : decide (p < s.size) = true := by simp; omega
  go_enter Tryd.func121, Tryd.ntmps121
  go_wp2_with fail
  go_quiet (fail)
  go_wp2_with fail
  go_ret
  exact ⟨rfl, _, rfl⟩

theorem sees_yes (g p : Nat) (s : ByteArray) (c : Int) (w : World) (h : Rdr w g s p) (h0 : 0 ≤ c) (hc : ba s p = c) :
    Calls Tryd.prog 121 #[.pointer (some ⟨g, 0, none⟩), .int .u8 c] w fun e w' => e = .returned (.bool true) ∧ ∃ n, w' = w.drewN n := by
  have hp : p < s.size := ba_lt (by omega)
  refine (sees_in g p s c w h hp).mono fun e w' ⟨he, hw⟩ => ⟨?_, hw⟩
  rw [ba_in hp] at hc
  rw [he, beq_iff_eq.2 hc]

theorem sees_no (g p : Nat) (s : ByteArray) (c : Int) (w : World) (h : Rdr w g s p) (hc : ba s p ≠ c) :
    Calls Tryd.prog 121 #[.pointer (some ⟨g, 0, none⟩), .int .u8 c] w fun e w' => e = .returned (.bool false) ∧ ∃ n, w' = w.drewN n := by
  rcases Nat.lt_or_ge p s.size with hp | hp
  · refine (sees_in g p s c w h hp).mono fun e w' ⟨he, hw⟩ => ⟨?_, hw⟩
    rw [ba_in hp] at hc
    rw [he, beq_eq_false_iff_ne.2 hc]
  · exact sees_out g p s c w h hp

theorem sees_any (g p : Nat) (s : ByteArray) (c : Int) (w : World) (h : Rdr w g s p) (h0 : 0 ≤ c) (b : Bool) (hb : decide (ba s p = c) = b) :
    Calls Tryd.prog 121 #[.pointer (some ⟨g, 0, none⟩), .int .u8 c] w fun e w' => e = .returned (.bool b) ∧ ∃ n, w' = w.drewN n := by
  cases b with
  | true => exact sees_yes g p s c w h h0 (by simpa using hb)
  | false => exact sees_no g p s c w h (by simpa using hb)

set_option maxHeartbeats 400000 in
theorem digit_out (g p : Nat) (s : ByteArray) (w : World) (h : Rdr w g s p) (hp : s.size ≤ p) :
    Calls Tryd.prog 120 #[.pointer (some ⟨g, 0, none⟩)] w fun e w' => e = .returned (.bool false) ∧ ∃ n, w' = w.drewN n := by
  have h0 := h.c0
  have h1 := h.c1
  have hd : decide (p < s.size) = false := by simp; omega
  go_enter Tryd.func120, Tryd.ntmps120
  go_wp2_with fail
  go_quiet (fail)
  go_wp2_with fail
  go_ret
  exact ⟨rfl, _, rfl⟩

set_option maxHeartbeats 400000 in
theorem digit_lo (g p : Nat) (s : ByteArray) (w : World) (h : Rdr w g s p) (hp : p < s.size) (hb : (s[p].toNat : Int) < 48) :
    Calls Tryd.prog 120 #[.pointer (some ⟨g, 0, none⟩)] w fun e w' => e = .returned (.bool false) ∧ ∃ n, w' = w.drewN n := by
  have h0 := h.c0
  have h1 := h.c1
  have hd : decide (p < s.size) = true := by simp; omega
  have hd2 : decide (48 ≤ (s[p].toNat : Int)) = false := by simp; omega
  go_enter Tryd.func120, Tryd.ntmps120
  go_wp2_with fail
  go_quiet (fail)
  go_wp2_with fail
  go_ret
  exact ⟨rfl, _, rfl⟩

set_option maxHeartbeats 400000 in
theorem digit_hi (g p : Nat) (s : ByteArray) (w : World) (h : Rdr w g s p) (hp : p < s.size) (hb : 48 ≤ (s[p].toNat : Int)) :
    Calls Tryd.prog 120 #[.pointer (some ⟨g, 0, none⟩)] w fun e w' => e = .returned (.bool (decide ((s[p].toNat : Int) ≤ 57))) ∧ ∃ n, w' = w.drewN n := by
  have h0 := h.c0
  have h1 := h.c1
  have hd : decide (p < s.size) = true := by simp; omega
  have hd2 : decide (48 ≤ (s[p].toNat : Int)) = true := by simp; omega
  go_enter Tryd.func120, Tryd.ntmps120
  go_wp2_with fail
  go_quiet (fail)
  go_wp2_with fail
  go_ret
  exact ⟨rfl, _, rfl⟩

theorem digit_any (g p : Nat) (s : ByteArray) (w : World) (h : Rdr w g s p) (b : Bool) (hb : dg s p = b) :
    Calls Tryd.prog 120 #[.pointer (some ⟨g, 0, none⟩)] w fun e w' => e = .returned (.bool b) ∧ ∃ n, w' = w.drewN n := by
  subst hb
  rcases Nat.lt_or_ge p s.size with hp | hp
  · unfold dg
    rw [ba_in hp]
    by_cases h1 : 48 ≤ (s[p].toNat : Int)
    · refine (digit_hi g p s w h hp h1).mono fun e w' ⟨he, hw⟩ => ⟨?_, hw⟩
      rw [he]
      simp [h1]
    · refine (digit_lo g p s w h hp (by omega)).mono fun e w' ⟨he, hw⟩ => ⟨?_, hw⟩
      rw [he]
      simp [h1]
  · refine (digit_out g p s w h hp).mono fun e w' ⟨he, hw⟩ => ⟨?_, hw⟩
    unfold dg
    rw [he, ba_out hp]
    rfl

/-- The end of a run by a panic of the program's own. -/
def Fell (e : Ending) : Prop := ∃ b : ByteArray, e = .panicked [{ v := .iface 9 (.string b), recovered := false }]

set_option maxHeartbeats 400000 in
theorem take_yes (g p : Nat) (s : ByteArray) (c : Int) (w : World) (h : Rdr w g s p) (h0 : 0 ≤ c) (hc : ba s p = c) (hs : s.size ≤ 400) :
    Calls Tryd.prog 122 #[.pointer (some ⟨g, 0, none⟩), .int .u8 c] w fun e w' => e = .returned (.tuple #[]) ∧ Rdr w' g s (p + 1) ∧ w.grownBy w' (some g) := by
  have hp : p < s.size := ba_lt (by omega)
  have h1 := h.c1
  have hf := h.f 1
  have hc' := sees_yes g p s c w h h0 hc
  have H := Lib.hid hc'
  clear hc' hc
  go_enter Tryd.func122, Tryd.ntmps122
  go_wp2_with fail
  refine H.out.mono ?_
  rintro e w' ⟨rfl, n, rfl⟩
  go_wp2_with fail
  go_end0
  refine ⟨rfl, ?_, ?_⟩
  · have := (h.drewN n).set1 (p + 1)
    simpa using this
  · exact (gr_drewN w n _).trans (gr_set _ _ _ _)

set_option maxHeartbeats 400000 in
theorem take_no (g p : Nat) (s : ByteArray) (c : Int) (w : World) (h : Rdr w g s p) (hc : ba s p ≠ c) :
    Calls Tryd.prog 122 #[.pointer (some ⟨g, 0, none⟩), .int .u8 c] w fun e w' => Fell e ∧ w.grownBy w' (some g) := by
  have hc' := sees_no g p s c w h hc
  have H := Lib.hid hc'
  clear hc' hc
  go_enter Tryd.func122, Tryd.ntmps122
  go_wp2_with fail
  refine H.out.mono ?_
  rintro e w' ⟨rfl, n, rfl⟩
  go_wp2_with fail
  exact ⟨rfl, ⟨_, rfl⟩, gr_drewN w n _⟩

set_option maxHeartbeats 400000 in
theorem end_yes (g p : Nat) (s : ByteArray) (w : World) (h : Rdr w g s p) (hp : s.size ≤ p) :
    Calls Tryd.prog 76 #[.pointer (some ⟨g, 0, none⟩)] w fun e w' => e = .returned (.tuple #[]) ∧ ∃ n, w' = w.drewN n := by
  have h0 := h.c0
  have h1 := h.c1
  have hd : decide (p < s.size) = false := by simp; omega
  go_enter Tryd.func76, Tryd.ntmps76
  go_wp2_with fail
  go_quiet (fail)
  go_wp2_with fail
  go_end0
  exact ⟨rfl, _, rfl⟩

set_option maxHeartbeats 400000 in
theorem end_no (g p : Nat) (s : ByteArray) (w : World) (h : Rdr w g s p) (hp : p < s.size) :
    Calls Tryd.prog 76 #[.pointer (some ⟨g, 0, none⟩)] w fun e w' => Fell e ∧ w.grownBy w' (some g) := by
  have h0 := h.c0
  have h1 := h.c1
  have hd : decide (p < s.size) = true := by simp; omega
  go_enter Tryd.func76, Tryd.ntmps76
  go_wp2_with fail
  go_quiet (fail)
  go_wp2_with fail
  exact ⟨rfl, ⟨_, rfl⟩, gr_drewN w _ _⟩

end Go.Proofs.YtppkchcoaolhhaaDoor
