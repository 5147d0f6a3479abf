/- What the term reader's read of the program does: the term that stands at the place, as nodes in memory, or a panic. -/
import Derived.Test.YtboddoaekcchpaaGreatTRd
namespace Go.Proofs.YtboddoaekcchpaaGreat
open Go.RowKit

/-- How read ends. -/
def TPost (s : ByteArray) (f p g : Nat) (w : World) (e : Ending) (w' : World) : Prop :=
  w.grownBy w' (some g) ∧ ((∃ t q v, tm s f p = some (t, q) ∧ e = .returned v ∧ TRd w' g s q ∧ PT w' (fun b => w.heap.size ≤ b) t v) ∨ (tm s f p = none ∧ Fell e))
theorem tpost_fell {s : ByteArray} {f p g : Nat} {w w' : World} {e : Ending} (hn : tm s f p = none) (hg : w.grownBy w' (some g)) (he : Fell e) : TPost s f p g w e w' := ⟨hg, .inr ⟨hn, he⟩⟩
theorem tpost_ok {s : ByteArray} {f p g q : Nat} {w w' : World} {e : Ending} {t : Tm} {v : Value} (hn : tm s f p = some (t, q)) (hg : w.grownBy w' (some g)) (he : e = .returned v) (hr : TRd w' g s q) (ha : PT w' (fun b => w.heap.size ≤ b) t v) :
    TPost s f p g w e w' := ⟨hg, .inl ⟨t, q, v, hn, he, hr, ha⟩⟩

/-- How readPair and readLoop end: the node's pointer. -/
def NPost (ty : TypeId) (s : ByteArray) (f p g : Nat) (w : World) (e : Ending) (w' : World) : Prop :=
  w.grownBy w' (some g) ∧ ((∃ t q b, tm s f p = some (t, q) ∧ e = .returned (.pointer (some ⟨b, 0, none⟩)) ∧ TRd w' g s q ∧ PT w' (fun b => w.heap.size ≤ b) t (.iface ty (.pointer (some ⟨b, 0, none⟩)))) ∨ (tm s f p = none ∧ Fell e))
theorem npost_fell {ty : TypeId} {s : ByteArray} {f p g : Nat} {w w' : World} {e : Ending} (hn : tm s f p = none) (hg : w.grownBy w' (some g)) (he : Fell e) : NPost ty s f p g w e w' := ⟨hg, .inr ⟨hn, he⟩⟩
theorem npost_ok {ty : TypeId} {s : ByteArray} {f p g q b : Nat} {w w' : World} {e : Ending} {t : Tm} (hn : tm s f p = some (t, q)) (hg : w.grownBy w' (some g)) (he : e = .returned (.pointer (some ⟨b, 0, none⟩))) (hr : TRd w' g s q)
    (ha : PT w' (fun b => w.heap.size ≤ b) t (.iface ty (.pointer (some ⟨b, 0, none⟩)))) : NPost ty s f p g w e w' := ⟨hg, .inl ⟨t, q, b, hn, he, hr, ha⟩⟩

theorem PT.far {w : World} {S : Nat → Prop} {t : Tm} {v : Value} (h : PT w S t v) {b i : Nat} (hb : ¬ S b) (u : Value) : PT (w.setCell ⟨b, i, none⟩ u) S t v :=
  h.keep (fun k hk _ => Below.heap_setCell _ _ _ _ (by show k ≠ b; rintro rfl; exact hb hk)) (fun _ hk _ => hk) t v
theorem PT.more {w w' : World} {S : Nat → Prop} {t : Tm} {v : Value} (h : PT w S t v) {g : Nat} (hg : w.grownBy w' (some g)) (hS : ¬ S g) : PT w' S t v :=
  h.keep (fun k hk hl => hg.block k hl (by simp; rintro rfl; exact hS hk)) (fun _ hk _ => hk) t v
theorem PT.wide {w : World} {S S' : Nat → Prop} {t : Tm} {v : Value} (h : PT w S t v) (hs : ∀ b, S b → S' b) : PT w S' t v :=
  h.keep (fun _ _ _ => rfl) (fun b hb _ => hs b hb) t v

/-- A node of three cells; of four. -/
def C3 (w : World) (b : Nat) (x y z : Value) (ty : TypeId) : Prop := w.heap[b]? = some (.cells #[x, y, z] ty (0, 0))
def C4 (w : World) (b : Nat) (x y z u : Value) (ty : TypeId) : Prop := w.heap[b]? = some (.cells #[x, y, z, u] ty (0, 0))
section
variable {w w' : World} {b : Nat} {x y z u : Value} {ty : TypeId}
theorem C3.c0 (h : C3 w b x y z ty) : w.cell? ⟨b, 0, none⟩ = some x := cell_of_row w b 0 _ _ (0, 0) h
theorem C3.c1 (h : C3 w b x y z ty) : w.cell? ⟨b, 1, none⟩ = some y := cell_of_row w b 1 _ _ (0, 0) h
theorem C3.c2 (h : C3 w b x y z ty) : w.cell? ⟨b, 2, none⟩ = some z := cell_of_row w b 2 _ _ (0, 0) h
theorem C3.f (h : C3 w b x y z ty) (i : Nat) : w.frozen? ⟨b, i, none⟩ = false := by unfold C3 at h; simp [World.frozen?, h]
theorem C3.lt (h : C3 w b x y z ty) : b < w.heap.size := blk_lt h
theorem C3.set0 (h : C3 w b x y z ty) (v : Value) : C3 (w.setCell ⟨b, 0, none⟩ v) b v y z ty := by unfold C3 at h ⊢; simp [World.setCell, Array.getElem?_modify, h]
theorem C3.set1 (h : C3 w b x y z ty) (v : Value) : C3 (w.setCell ⟨b, 1, none⟩ v) b x v z ty := by unfold C3 at h ⊢; simp [World.setCell, Array.getElem?_modify, h]
theorem C3.set2 (h : C3 w b x y z ty) (v : Value) : C3 (w.setCell ⟨b, 2, none⟩ v) b x y v ty := by unfold C3 at h ⊢; simp [World.setCell, Array.getElem?_modify, h]
theorem C3.grown {row : Option Nat} (h : C3 w b x y z ty) (hg : w.grownBy w' row) (hne : some b ≠ row) : C3 w' b x y z ty := (hg.block b h.lt hne).trans h
theorem C3.drewN (h : C3 w b x y z ty) (n : Nat) : C3 (w.drewN n) b x y z ty := h
theorem C3.alloc (h : C3 w b x y z ty) (o : Obj) : C3 (w.alloc o) b x y z ty := (Below.heap_alloc w o b h.lt).trans h
theorem c3_new (w : World) (x y z : Value) (ty : TypeId) : C3 (w.alloc (.cells #[x, y, z] ty)) w.heap.size x y z ty := heap_alloc_new _ _
theorem C4.c0 (h : C4 w b x y z u ty) : w.cell? ⟨b, 0, none⟩ = some x := cell_of_row w b 0 _ _ (0, 0) h
theorem C4.c1 (h : C4 w b x y z u ty) : w.cell? ⟨b, 1, none⟩ = some y := cell_of_row w b 1 _ _ (0, 0) h
theorem C4.c2 (h : C4 w b x y z u ty) : w.cell? ⟨b, 2, none⟩ = some z := cell_of_row w b 2 _ _ (0, 0) h
theorem C4.c3 (h : C4 w b x y z u ty) : w.cell? ⟨b, 3, none⟩ = some u := cell_of_row w b 3 _ _ (0, 0) h
theorem C4.f (h : C4 w b x y z u ty) (i : Nat) : w.frozen? ⟨b, i, none⟩ = false := by unfold C4 at h; simp [World.frozen?, h]
theorem C4.lt (h : C4 w b x y z u ty) : b < w.heap.size := blk_lt h
theorem C4.set0 (h : C4 w b x y z u ty) (v : Value) : C4 (w.setCell ⟨b, 0, none⟩ v) b v y z u ty := by unfold C4 at h ⊢; simp [World.setCell, Array.getElem?_modify, h]
theorem C4.set1 (h : C4 w b x y z u ty) (v : Value) : C4 (w.setCell ⟨b, 1, none⟩ v) b x v z u ty := by unfold C4 at h ⊢; simp [World.setCell, Array.getElem?_modify, h]
theorem C4.set2 (h : C4 w b x y z u ty) (v : Value) : C4 (w.setCell ⟨b, 2, none⟩ v) b x y v u ty := by unfold C4 at h ⊢; simp [World.setCell, Array.getElem?_modify, h]
theorem C4.set3 (h : C4 w b x y z u ty) (v : Value) : C4 (w.setCell ⟨b, 3, none⟩ v) b x y z v ty := by unfold C4 at h ⊢; simp [World.setCell, Array.getElem?_modify, h]
theorem C4.grown {row : Option Nat} (h : C4 w b x y z u ty) (hg : w.grownBy w' row) (hne : some b ≠ row) : C4 w' b x y z u ty := (hg.block b h.lt hne).trans h
theorem C4.drewN (h : C4 w b x y z u ty) (n : Nat) : C4 (w.drewN n) b x y z u ty := h
theorem C4.alloc (h : C4 w b x y z u ty) (o : Obj) : C4 (w.alloc o) b x y z u ty := (Below.heap_alloc w o b h.lt).trans h
theorem c4_new (w : World) (x y z u : Value) (ty : TypeId) : C4 (w.alloc (.cells #[x, y, z, u] ty)) w.heap.size x y z u ty := heap_alloc_new _ _
end

/-- From the entry on, a block of the call's own is written: the entry's blocks stand. -/
theorem gr_own {w w1 : World} {g b i : Nat} (h : w.grownBy w1 (some g)) (hb : w.heap.size ≤ b) (u : Value) : w.grownBy (w1.setCell ⟨b, i, none⟩ u) (some g) :=
  ⟨h.os, h.tape, h.output, Nat.le_trans h.size (gr_set w1 b i u).size, fun k hk hne => (Below.heap_setCell _ _ _ _ (by show k ≠ b; omega)).trans (h.block k hk hne)⟩

set_option maxHeartbeats 1000000 in
theorem tpair_any (g f p : Nat) (s : ByteArray) (hs : s.size ≤ 400) (hc : ba s p = 40)
    (ih : ∀ (p : Nat) (w : World), p ≤ s.size → s.size < p + f → TRd w g s p → Calls Tryz.prog 46 #[.pointer (some ⟨g, 0, none⟩)] w (TPost s f p g w))
    (hf : s.size < p + 1 + f) (w : World) (h : TRd w g s (p + 1)) :
    Calls Tryz.prog 67 #[.pointer (some ⟨g, 0, none⟩)] w (NPost 116 s (f + 1) p g w) := by
  have HI := Lib.hid ih
  have HR := Lib.hid h
  have HC := Lib.hid hc
  have hgw := h.lt
  have hp1 : p < s.size := ba_lt (by omega)
  clear ih h hc
  go_enter Tryz.func67, Tryz.ntmps67
  go_wp2_with fail
  have HN := Lib.hid (c3_new w (.int .u8 0) .nilIface .nilIface 119)
  have HR0 := Lib.hid (HR.out.alloc (.cells #[.int .u8 0, .nilIface, .nilIface] 119))
  have HG0 := Lib.hid (World.grownBy_alloc w (.cells #[.int .u8 0, .nilIface, .nilIface] 119) (some g))
  have hz0 : (w.alloc (.cells #[.int .u8 0, .nilIface, .nilIface] 119)).heap.size = w.heap.size + 1 := by simp
  have HZ0 := Lib.hid hz0
  clear hz0
  refine (HI.out (p + 1) _ (by omega) (by omega) HR0.out).mono ?_
  generalize w.alloc (.cells #[.int .u8 0, .nilIface, .nilIface] 119) = w0 at HN HR0 HG0 HZ0
  rintro e w1 ⟨hg1, ⟨x, q1, v1, hn1, rfl, hr1, ha1⟩ | ⟨hn1, b1, rfl⟩⟩
  case inr => exact ⟨rfl, npost_fell (tm_two_n1 HC.out hn1) (HG0.out.trans hg1) ⟨_, rfl⟩⟩
  have g1 := tm_ge s f _ _ _ hn1
  have HN1 := Lib.hid (HN.out.grown hg1 (by simp; omega))
  have HG1 := Lib.hid (HG0.out.trans hg1)
  have HX1 := Lib.hid (ha1.wide (S' := fun b => w.heap.size + 1 ≤ b) (fun b hb => by have := HZ0.out; omega))
  obtain ⟨ty1, pv1, rfl⟩ := ha1.iface
  have n1 := HN1.out.f 1
  have n1c := HN1.out.c1
  have HM1 := Lib.hid hn1
  have HR1 := Lib.hid hr1
  have hz1 : w.heap.size + 1 ≤ w1.heap.size := by have := HZ0.out; have := hg1.size; omega
  clear hn1 hg1 ha1 hr1
  go_wp2_with fail
  have HN2 := Lib.hid (HN1.out.set1 (.iface ty1 pv1))
  have HR2 := Lib.hid (HR1.out.far (k := w.heap.size) (i := 1) (by omega) (.iface ty1 pv1))
  have HG2 := Lib.hid (gr_own (i := 1) HG1.out (Nat.le_refl _) (.iface ty1 pv1))
  have HX2 := Lib.hid (HX1.out.far (b := w.heap.size) (i := 1) (by show ¬ (w.heap.size + 1 ≤ w.heap.size); omega) (.iface ty1 pv1))
  have hz2 : w.heap.size + 1 ≤ (w1.setCell ⟨w.heap.size, 1, none⟩ (.iface ty1 pv1)).heap.size := by simpa using hz1
  generalize w1.setCell ⟨w.heap.size, 1, none⟩ (.iface ty1 pv1) = w2 at HN2 HR2 HG2 HX2 hz2
  clear HN1 HR1 HG1 HX1 HN HR0 HG0 n1 n1c hz1
  cases hb : isB (ba s q1)
  · refine (tofB_no g q1 s _ HR2.out (by omega) hs hb).mono ?_
    rintro e w3 ⟨⟨b, rfl⟩, hg3⟩
    exact ⟨rfl, npost_fell (tm_two_n2 HC.out HM1.out hb) (HG2.out.trans hg3) ⟨_, rfl⟩⟩
  have hq1 : q1 < s.size := ba_lt (by have := isB_ge hb; omega)
  have HB := Lib.hid hb
  clear hb
  refine (tofB_yes g q1 s _ HR2.out hs HB.out).mono ?_
  rintro e w3 ⟨rfl, hr3, hg3⟩
  have HN3 := Lib.hid (HN2.out.grown hg3 (by simp; omega))
  have HX3 := Lib.hid (HX2.out.more hg3 (by show ¬ (w.heap.size + 1 ≤ g); omega))
  have HG3 := Lib.hid (HG2.out.trans hg3)
  have HR3 := Lib.hid hr3
  have hz3 : w.heap.size + 1 ≤ w3.heap.size := Nat.le_trans hz2 hg3.size
  have n0 := HN3.out.f 0
  have n0c := HN3.out.c0
  clear hr3 hg3 hz2
  obtain ⟨c, hcc⟩ : ∃ c, ba s q1 = c := ⟨_, rfl⟩
  rw [hcc]
  have HCC := Lib.hid hcc
  clear hcc
  go_wp2_with fail
  have HN4 := Lib.hid (HN3.out.set0 (.int .u8 c))
  have HR4 := Lib.hid (HR3.out.far (k := w.heap.size) (i := 0) (by omega) (.int .u8 c))
  have HG4 := Lib.hid (gr_own (i := 0) HG3.out (Nat.le_refl _) (.int .u8 c))
  have HX4 := Lib.hid (HX3.out.far (b := w.heap.size) (i := 0) (by show ¬ (w.heap.size + 1 ≤ w.heap.size); omega) (.int .u8 c))
  have hz4 : w.heap.size + 1 ≤ (w3.setCell ⟨w.heap.size, 0, none⟩ (.int .u8 c)).heap.size := by simpa using hz3
  generalize w3.setCell ⟨w.heap.size, 0, none⟩ (.int .u8 c) = w4 at HN4 HR4 HG4 HX4 hz4
  clear HN3 HR3 HG3 HX3 HN2 HR2 HG2 HX2 n0 n0c hz3
  refine (HI.out (q1 + 1) _ (by omega) (by omega) HR4.out).mono ?_
  rintro e w5 ⟨hg5, ⟨y, q5, v5, hn5, rfl, hr5, ha5⟩ | ⟨hn5, b5, rfl⟩⟩
  case inr => exact ⟨rfl, npost_fell (tm_two_n3 HC.out HM1.out HB.out hn5) (HG4.out.trans hg5) ⟨_, rfl⟩⟩
  have g5 := tm_ge s f _ _ _ hn5
  have HN5 := Lib.hid (HN4.out.grown hg5 (by simp; omega))
  have HX5 := Lib.hid (HX4.out.more hg5 (by show ¬ (w.heap.size + 1 ≤ g); omega))
  have HG5 := Lib.hid (HG4.out.trans hg5)
  have HR5 := Lib.hid hr5
  have HY5 := Lib.hid (ha5.wide (S' := fun b => w.heap.size + 1 ≤ b) (fun b hb => by omega))
  obtain ⟨ty5, pv5, rfl⟩ := ha5.iface
  have n2 := HN5.out.f 2
  have n2c := HN5.out.c2
  have HM5 := Lib.hid hn5
  clear hn5 hg5 ha5 hr5 hz4 HN4 HR4 HG4 HX4
  go_wp2_with fail
  have HN6 := Lib.hid (HN5.out.set2 (.iface ty5 pv5))
  have HR6 := Lib.hid (HR5.out.far (k := w.heap.size) (i := 2) (by omega) (.iface ty5 pv5))
  have HG6 := Lib.hid (gr_own (i := 2) HG5.out (Nat.le_refl _) (.iface ty5 pv5))
  have HX6 := Lib.hid (HX5.out.far (b := w.heap.size) (i := 2) (by show ¬ (w.heap.size + 1 ≤ w.heap.size); omega) (.iface ty5 pv5))
  have HY6 := Lib.hid (HY5.out.far (b := w.heap.size) (i := 2) (by show ¬ (w.heap.size + 1 ≤ w.heap.size); omega) (.iface ty5 pv5))
  generalize w5.setCell ⟨w.heap.size, 2, none⟩ (.iface ty5 pv5) = w6 at HN6 HR6 HG6 HX6 HY6
  clear HN5 HR5 HG5 HX5 HY5 n2 n2c
  by_cases h41 : ba s q5 = 41
  · refine (take_yes g q5 s 41 _ HR6.out (by omega) h41 hs).mono ?_
    rintro e w7 ⟨rfl, hr7, hg7⟩
    have HN7 := Lib.hid (HN6.out.grown hg7 (by simp; omega))
    have HX7 := Lib.hid (HX6.out.more hg7 (by show ¬ (w.heap.size + 1 ≤ g); omega))
    have HY7 := Lib.hid (HY6.out.more hg7 (by show ¬ (w.heap.size + 1 ≤ g); omega))
    have HG7 := Lib.hid (HG6.out.trans hg7)
    have HR7 := Lib.hid hr7
    have H41 := Lib.hid h41
    clear hr7 hg7 h41
    go_wp2_with fail
    go_ret
    refine npost_ok (tm_two_s HC.out HM1.out HB.out HM5.out H41.out) HG7.out rfl HR7.out ?_
    rw [HCC.out]
    exact ⟨_, _, _, rfl, Nat.le_refl _, HN7.out, HX7.out.wide (fun b hb => by omega), HY7.out.wide (fun b hb => by omega)⟩
  · refine (take_no g q5 s 41 _ HR6.out h41).mono ?_
    rintro e w7 ⟨⟨b, rfl⟩, hg7⟩
    exact ⟨rfl, npost_fell (tm_two_n4 HC.out HM1.out HB.out HM5.out h41) (HG6.out.trans hg7) ⟨_, rfl⟩⟩

end Go.Proofs.YtboddoaekcchpaaGreat
