/- What the term reader's small methods of the program do: next and nextOf. -/
import Derived.Test.YtboddoaekcchpaaGreatTxt
import Derived.Test.YtboddoaekcchpaaGreatSgn
import Derived.Test.YtboddoaekcchpaaGreatTmM
import Derived.IntWalk
namespace Go.Proofs.YtboddoaekcchpaaGreat
open Go.RowKit

/-- The term reader at block g: its text and its place. -/
def TRd (w : World) (g : Nat) (s : ByteArray) (p : Nat) : Prop := RdrT 89 w g s p

section
variable {w w' : World} {g p : Nat} {s : ByteArray}
theorem TRd.c0 (h : TRd w g s p) : w.cell? ⟨g, 0, none⟩ = some (.string s) := RdrT.c0 h
theorem TRd.c1 (h : TRd w g s p) : w.cell? ⟨g, 1, none⟩ = some (.int .i64 p) := RdrT.c1 h
theorem TRd.f (h : TRd w g s p) (i : Nat) : w.frozen? ⟨g, i, none⟩ = false := RdrT.f h i
theorem TRd.lt (h : TRd w g s p) : g < w.heap.size := RdrT.lt h
theorem TRd.drewN (h : TRd w g s p) (n : Nat) : TRd (w.drewN n) g s p := h
theorem TRd.set1 (h : TRd w g s p) (q : Nat) : TRd (w.setCell ⟨g, 1, none⟩ (.int .i64 q)) g s q := RdrT.set1 h q
theorem TRd.alloc (h : TRd w g s p) (o : Obj) : TRd (w.alloc o) g s p := RdrT.alloc h o
theorem TRd.grown {row : Option Nat} (h : TRd w g s p) (hg : w.grownBy w' row) (hne : some g ≠ row) : TRd w' g s p := RdrT.grown h hg hne
theorem TRd.far (h : TRd w g s p) {k i : Nat} (hk : g ≠ k) (u : Value) : TRd (w.setCell ⟨k, i, none⟩ u) g s p := (Below.heap_setCell _ _ _ _ hk).trans h
end

set_option maxHeartbeats 400000 in
theorem tnext_yes (g p : Nat) (s : ByteArray) (w : World) (h : TRd w g s p) (hp : p < s.size) (hs : s.size ≤ 400) :
    Calls Tryz.prog 65 #[.pointer (some ⟨g, 0, none⟩)] w fun e w' => e = .returned (.int .u8 (ba s p)) ∧ TRd w' g s (p + 1) ∧ w.grownBy w' (some g) := by
  have h0 := h.c0
  have h1 := h.c1
  have hf := h.f 1
  have hd : ((p : Int) == (s.size : Int)) = false := by rw [beq_eq_false_iff_ne]; omega
  have HR := Lib.hid h
  have HB := Lib.hid (ba_in hp)
  go_enter Tryz.func65, Tryz.ntmps65
  go_wp2_with fail
  go_quiet (fail)
  have HR2 : Hid (TRd ((w.drewN nq).setCell ⟨g, 1, none⟩ (.int .i64 ((p : Int) + 1))) g s (p + 1)) := Lib.hid (by have := (HR.out.drewN nq).set1 (p + 1); simpa using this)
  have g0 := HR2.out.c0
  have g1 : ((w.drewN nq).setCell ⟨g, 1, none⟩ (.int .i64 ((p : Int) + 1))).cell? ⟨g, 1, none⟩ = some (.int .i64 ((p : Int) + 1)) := by have := HR2.out.c1; simpa using this
  have w1 : IntKind.i64.wrap ((p : Int) + 1) = (p : Int) + 1 := IntWalk.i64_in _ (by omega)
  have w2 : IntKind.i64.wrap ((p : Int) + 1 - 1) = (p : Int) := (IntWalk.i64_in _ (by omega)).trans (by omega)
  go_wp2_with fail
  go_quiet (fail)
  go_wp2_with fail
  go_ret
  exact ⟨by rw [HB.out]; rfl, HR2.out.drewN _, ((gr_drewN w _ _).trans (gr_set _ _ _ _)).trans (gr_drewN _ _ _)⟩

set_option maxHeartbeats 400000 in
theorem tnext_no (g p : Nat) (s : ByteArray) (w : World) (h : TRd w g s p) (hp : p = s.size) :
    Calls Tryz.prog 65 #[.pointer (some ⟨g, 0, none⟩)] w fun e w' => Fell e ∧ w.grownBy w' (some g) := by
  have h0 := h.c0
  have h1 := h.c1
  have hd : ((p : Int) == (s.size : Int)) = true := by rw [beq_iff_eq]; omega
  clear hp
  go_enter Tryz.func65, Tryz.ntmps65
  go_wp2_with fail
  go_quiet (fail)
  go_wp2_with fail
  exact ⟨rfl, ⟨_, rfl⟩, gr_drewN w _ _⟩

/-- A sign of a set is read, or nothing fits. -/
theorem tnextof_yes (g p : Nat) (s set : ByteArray) (w : World) (h : TRd w g s p) (hp : p < s.size) (hs : s.size ≤ 400) (hb : decide (0 ≤ Lib.indexByte set.data.toList (ba s p).toNat.toUInt8) = true) :
    Calls Tryz.prog 82 #[.pointer (some ⟨g, 0, none⟩), .string set] w fun e w' => e = .returned (.int .u8 (ba s p)) ∧ TRd w' g s (p + 1) ∧ w.grownBy w' (some g) := by
  have H1 := Lib.hid (tnext_yes g p s w h hp hs)
  have H2 := Lib.hid (fun w => oneof_any set (ba s p) true hb w)
  clear hb h
  go_enter Tryz.func82, Tryz.ntmps82
  go_wp2_with fail
  refine H1.out.mono ?_
  rintro e w1 ⟨rfl, hr1, hg1⟩
  have HR1 := Lib.hid hr1
  have HG1 := Lib.hid hg1
  clear hr1 hg1
  go_wp2_with fail
  refine (H2.out w1).mono ?_
  rintro e w' ⟨rfl, rfl⟩
  go_wp2_with fail
  go_ret
  exact ⟨rfl, HR1.out, HG1.out⟩
theorem tnextof_no (g p : Nat) (s set : ByteArray) (w : World) (h : TRd w g s p) (hp : p ≤ s.size) (hs : s.size ≤ 400) (hb : p < s.size → decide (0 ≤ Lib.indexByte set.data.toList (ba s p).toNat.toUInt8) = false) :
    Calls Tryz.prog 82 #[.pointer (some ⟨g, 0, none⟩), .string set] w fun e w' => Fell e ∧ w.grownBy w' (some g) := by
  rcases Nat.lt_or_ge p s.size with hlt | hge
  · have H1 := Lib.hid (tnext_yes g p s w h hlt hs)
    have H2 := Lib.hid (fun w => oneof_any set (ba s p) false (hb hlt) w)
    clear hb h
    go_enter Tryz.func82, Tryz.ntmps82
    go_wp2_with fail
    refine H1.out.mono ?_
    rintro e w1 ⟨rfl, hr1, hg1⟩
    have HR1 := Lib.hid hr1
    have HG1 := Lib.hid hg1
    clear hr1 hg1
    go_wp2_with fail
    refine (H2.out w1).mono ?_
    rintro e w' ⟨rfl, rfl⟩
    go_wp2_with fail
    exact ⟨rfl, ⟨_, rfl⟩, HG1.out⟩
  · have H1 := Lib.hid (tnext_no g p s w h (by omega))
    clear hb h
    go_enter Tryz.func82, Tryz.ntmps82
    go_wp2_with fail
    refine H1.out.mono ?_
    rintro e w1 ⟨⟨b, rfl⟩, hg1⟩
    exact ⟨rfl, ⟨_, rfl⟩, hg1⟩

theorem tofB_yes (g p : Nat) (s : ByteArray) (w : World) (h : TRd w g s p) (hs : s.size ≤ 400) (hb : isB (ba s p) = true) :
    Calls Tryz.prog 82 #[.pointer (some ⟨g, 0, none⟩), .string { data := #[43, 42, 94, 45, 61, 60, 64] }] w fun e w' => e = .returned (.int .u8 (ba s p)) ∧ TRd w' g s (p + 1) ∧ w.grownBy w' (some g) :=
  have hg := isB_ge hb
  tnextof_yes g p s sB w h (ba_lt (by omega)) hs ((sB_is (by omega) (by omega)).trans hb)
theorem tofB_no (g p : Nat) (s : ByteArray) (w : World) (h : TRd w g s p) (hp : p ≤ s.size) (hs : s.size ≤ 400) (hb : isB (ba s p) = false) :
    Calls Tryz.prog 82 #[.pointer (some ⟨g, 0, none⟩), .string { data := #[43, 42, 94, 45, 61, 60, 64] }] w fun e w' => Fell e ∧ w.grownBy w' (some g) :=
  tnextof_no g p s sB w h hp hs (fun hlt => (sB_is (by rw [ba_in hlt]; omega) (ba_hi s p)).trans hb)
theorem tofL_yes (g p : Nat) (s : ByteArray) (w : World) (h : TRd w g s p) (hs : s.size ≤ 400) (hb : isL (ba s p) = true) :
    Calls Tryz.prog 82 #[.pointer (some ⟨g, 0, none⟩), .string { data := #[118, 119, 120, 121, 122] }] w fun e w' => e = .returned (.int .u8 (ba s p)) ∧ TRd w' g s (p + 1) ∧ w.grownBy w' (some g) :=
  have hg := isL_ge hb
  tnextof_yes g p s sL w h (ba_lt (by omega)) hs ((sL_is (by omega) (by omega)).trans hb)
theorem tofL_no (g p : Nat) (s : ByteArray) (w : World) (h : TRd w g s p) (hp : p ≤ s.size) (hs : s.size ≤ 400) (hb : isL (ba s p) = false) :
    Calls Tryz.prog 82 #[.pointer (some ⟨g, 0, none⟩), .string { data := #[118, 119, 120, 121, 122] }] w fun e w' => Fell e ∧ w.grownBy w' (some g) :=
  tnextof_no g p s sL w h hp hs (fun hlt => (sL_is (by rw [ba_in hlt]; omega) (ba_hi s p)).trans hb)

theorem lastbr_any (c : Int) (hc : c = 91 ∨ c = 123) (w : World) :
    Calls Tryz.prog 84 #[.int .u8 c] w fun e w' => e = .returned (.int .u8 (c + 2)) ∧ w' = w := by
  rcases hc with rfl | rfl
  all_goals
    go_enter Tryz.func84, Tryz.ntmps84
    go_wp2_with fail
    go_ret
    exact ⟨rfl, rfl⟩

end Go.Proofs.YtboddoaekcchpaaGreat
