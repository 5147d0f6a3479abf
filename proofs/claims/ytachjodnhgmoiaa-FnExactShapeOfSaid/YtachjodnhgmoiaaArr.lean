/- What readArray of the program does: the array of a depth that stands at the place, as nodes in memory, or a panic. -/
import Derived.Test.YtachjodnhgmoiaaParts1
namespace Go.Proofs.Ytachjodnhgmoiaa
open Go.RowKit

/-- How readArray ends. -/
def ArrPost (s : ByteArray) (d p g : Nat) (w : World) (e : Ending) (w' : World) : Prop :=
  w.grownBy w' (some g) ∧ ((∃ t q v, node s d p = some (t, q) ∧ e = .returned v ∧ Rdr w' g s q ∧ RepI w' (fun b => w.heap.size ≤ b) d t v) ∨ (node s d p = none ∧ Fell e))

theorem arr_fell {s : ByteArray} {d p g : Nat} {w w' : World} {e : Ending} (hn : node s d p = none) (hg : w.grownBy w' (some g)) (he : Fell e) : ArrPost s d p g w e w' := ⟨hg, .inr ⟨hn, he⟩⟩
theorem arr_ok {s : ByteArray} {d p g q : Nat} {w w' : World} {e : Ending} {t : T d} {v : Value} (hn : node s d p = some (t, q)) (hg : w.grownBy w' (some g)) (he : e = .returned v) (hr : Rdr w' g s q)
    (ha : RepI w' (fun b => w.heap.size ≤ b) d t v) : ArrPost s d p g w e w' := ⟨hg, .inl ⟨t, q, v, hn, he, hr, ha⟩⟩

theorem makeFunc_run (fn : Fn) (first cap : Array Value) (w : World) : (Instr.makeFunc fn first cap).run Try.prog w = .ok (.func fn first cap) w := rfl

set_option maxHeartbeats 400000 in
theorem array0 (g p : Nat) (s : ByteArray) (w : World) (h : Rdr w g s p) (hs : s.size ≤ 400) :
    Calls Try.prog 29 #[.pointer (some ⟨g, 0, none⟩), .int .i64 0] w (ArrPost s 0 p g w) := by
  have HR := Lib.hid h
  clear h
  go_enter Try.func29, Try.ntmps29
  go_wp2_with fail
  refine (number_any g p s _ ((HR.out.alloc _).alloc _) hs).mono ?_
  rintro e w1 ⟨hg1, ⟨v, q, hn, rfl, hr1⟩ | ⟨hn, b, rfl⟩⟩
  · have HG1 := Lib.hid hg1
    have HR1 := Lib.hid hr1
    have HN := Lib.hid hn
    obtain ⟨vi, hvi⟩ : ∃ vi : Int, vi = (v : Int) := ⟨_, rfl⟩
    rw [← hvi]
    have HVI := Lib.hid hvi
    clear hg1 hr1 hn hvi
    go_wp2_with fail
    go_ret
    refine arr_ok (d := 0) (t := v) HN.out (((World.grownBy_alloc _ _ _).trans (World.grownBy_alloc _ _ _)).trans HG1.out) rfl HR1.out ?_
    show _ = Value.iface _ (.int .i64 (v : Int))
    rw [← HVI.out]; rfl
  · have HG1 := Lib.hid hg1
    have HN := Lib.hid hn
    clear hg1 hn
    exact ⟨rfl, arr_fell (d := 0) HN.out (((World.grownBy_alloc _ _ _).trans (World.grownBy_alloc _ _ _)).trans HG1.out) ⟨_, rfl⟩⟩

theorem parts0_any (g p : Nat) (s : ByteArray) (w : World) (h : Rdr w g s p) (hs : s.size ≤ 400) :
    Calls Try.prog 40 #[.pointer (some ⟨g, 0, none⟩), .func (.func 39) #[.pointer (some ⟨g, 0, none⟩)] #[]] w (PartsPost s 0 p g w) := by
  by_cases hc : ba s p = 91
  · by_cases hc2 : ba s (p + 1) = 93
    · exact parts0_e g p s w h hc hc2 hs
    · cases h3 : node s 0 (p + 1) with
      | none => exact parts0_n2 g p s w h hc hc2 h3 hs
      | some r => exact parts0_s g p s w h hc hc2 r.1 r.2 h3 hs
  · exact parts0_n1 g p s w h hc

theorem parts1_any (g p bx bn d : Nat) (s : ByteArray) (w : World) (h : Rdr w g s p) (hs : s.size ≤ 400)
    (hel : ∀ (p : Nat) (w' : World), w.grownBy w' (some g) → Rdr w' g s p → Calls Try.prog 42 #[.pointer (some ⟨bx, 0, none⟩), .pointer (some ⟨bn, 0, none⟩)] w' (ElPost s (d + 1) p g w')) :
    Calls Try.prog 41 #[.pointer (some ⟨g, 0, none⟩), .func (.func 42) #[] #[.pointer (some ⟨bx, 0, none⟩), .pointer (some ⟨bn, 0, none⟩)]] w (PartsPost s (d + 1) p g w) := by
  by_cases hc : ba s p = 91
  · by_cases hc2 : ba s (p + 1) = 93
    · exact parts1_e g p bx bn d s w h hc hc2 hs
    · cases h3 : node s (d + 1) (p + 1) with
      | none => exact parts1_n2 g p bx bn d s w h hc hc2 h3 hs hel
      | some r => exact parts1_s g p bx bn d s w h hc hc2 r.1 r.2 h3 hs hel
  · exact parts1_n1 g p bx bn d s w h hc

/-- The node is laid round its row. -/
theorem rep_node {g d : Nat} {w w0 w1 : World} {ts : List (T d)} {sv : Value} {xs : List Value} (h0 : w.grownBy w0 (some g)) (h1 : w0.grownBy w1 (some g)) (ho : w1.ownsRow w0.heap.size (elT d) 1 sv xs.length xs) (ha : All2 (Nd w1 (fun b => w0.heap.size ≤ b) d) ts xs) :
    Nd (w1.alloc (.cells #[sv] (strT d))) (fun b => w.heap.size ≤ b) (d + 1) ts (.iface (ptrT d) (.pointer (some ⟨w1.heap.size, 0, none⟩))) := by
  have e0 := h0.size
  have e1 := h1.size
  have hl := ho.lt
  have hk : ∀ b, b < w1.heap.size → (w1.alloc (.cells #[sv] (strT d))).heap[b]? = w1.heap[b]? := fun b hb => Below.heap_alloc _ _ _ hb
  refine ⟨w1.heap.size, sv, xs, rfl, by omega, heap_alloc_new _ _, own_base (own_keep ho (fun k hk' => hk k (hl k hk').2)) (Nat.zero_le _), fun k hk' => by have := (hl k hk').1; omega, ?_⟩
  exact All2.mono (Nd.keep (fun b _ hb2 => hk b hb2) (fun b hb _ => by omega) d) ts xs ha

set_option maxHeartbeats 400000 in
theorem array1 (g p : Nat) (s : ByteArray) (w : World) (h : Rdr w g s p) (hs : s.size ≤ 400) :
    Calls Try.prog 29 #[.pointer (some ⟨g, 0, none⟩), .int .i64 1] w (ArrPost s 1 p g w) := by
  have HR := Lib.hid h
  clear h
  have hmf := makeFunc_run
  go_enter Try.func29, Try.ntmps29
  go_wp2_with fail
  clear hmf
  refine (parts0_any g p s _ ((HR.out.alloc _).alloc _) hs).mono ?_
  rintro e w1 ⟨hg1, ⟨ts, q, sv, xs, hn, rfl, hr1, ho1, ha1⟩ | ⟨hn, b, rfl⟩⟩
  · have HG1 := Lib.hid hg1
    have HR1 := Lib.hid hr1
    have HN := Lib.hid hn
    have HA := Lib.hid (rep_node (d := 0) ((World.grownBy_alloc _ _ _).trans (World.grownBy_alloc _ _ _)) hg1 ho1 ha1)
    obtain ⟨A1, m1, c1, rfl⟩ := own_form ho1
    clear hg1 hr1 hn ho1 ha1
    go_wp2_with fail
    go_ret
    exact arr_ok (d := 1) (t := ts) HN.out ((((World.grownBy_alloc _ _ _).trans (World.grownBy_alloc _ _ _)).trans HG1.out).trans (World.grownBy_alloc _ _ _)) rfl (HR1.out.alloc _) HA.out
  · have HG1 := Lib.hid hg1
    have HN := Lib.hid hn
    clear hg1 hn
    exact ⟨rfl, arr_fell (d := 1) HN.out (((World.grownBy_alloc _ _ _).trans (World.grownBy_alloc _ _ _)).trans HG1.out) ⟨_, rfl⟩⟩

/-- Two boxes, one behind the other. -/
theorem cell_two (w : World) (x y : Value) (tx ty : TypeId) : ((w.alloc (.cells #[x] tx)).alloc (.cells #[y] ty)).cell? ⟨w.heap.size, 0, none⟩ = some x ∧ ((w.alloc (.cells #[x] tx)).alloc (.cells #[y] ty)).cell? ⟨w.heap.size + 1, 0, none⟩ = some y := by
  have e : (w.alloc (.cells #[x] tx)).heap.size = w.heap.size + 1 := by simp
  constructor
  · exact cell_of_row _ _ 0 _ _ (0, 0) ((Below.heap_alloc _ _ _ (by omega)).trans (heap_alloc_new _ _))
  · have h := cell_of_row _ _ 0 _ _ (0, 0) (heap_alloc_new (w.alloc (.cells #[x] tx)) (.cells #[y] ty))
    rw [e] at h
    exact h

/-- What the closure does, out of readArray one depth below. -/
theorem closure_any (g bx bn d : Nat) (n : Int) (s : ByteArray) (hn0 : -1000 ≤ n) (hn1 : n ≤ 1000)
    (ih : ∀ (p : Nat) (w : World), Rdr w g s p → Calls Try.prog 29 #[.pointer (some ⟨g, 0, none⟩), .int .i64 (n - 1)] w (ArrPost s (d + 1) p g w))
    (p : Nat) (w : World) (h : Rdr w g s p) (hbx : w.cell? ⟨bx, 0, none⟩ = some (.pointer (some ⟨g, 0, none⟩))) (hbn : w.cell? ⟨bn, 0, none⟩ = some (.int .i64 n)) :
    Calls Try.prog 42 #[.pointer (some ⟨bx, 0, none⟩), .pointer (some ⟨bn, 0, none⟩)] w (ElPost s (d + 1) p g w) := by
  have HI := Lib.hid ih
  have HR := Lib.hid h
  clear ih h
  go_enter Try.func42, Try.ntmps42
  go_wp2_with fail
  refine (HI.out p w HR.out).mono ?_
  rintro e w1 ⟨hg1, ⟨t, q, v, hn, rfl, hr1, ha1⟩ | ⟨hn, b, rfl⟩⟩
  · have HG1 := Lib.hid hg1
    have HR1 := Lib.hid hr1
    have HN := Lib.hid hn
    have HA := Lib.hid ha1
    clear hg1 hr1 hn ha1
    go_wp2_with fail
    go_ret
    exact ⟨HG1.out, .inl ⟨t, q, v, HN.out, rfl, HR1.out, HA.out⟩⟩
  · have HG1 := Lib.hid hg1
    have HN := Lib.hid hn
    clear hg1 hn
    exact ⟨rfl, HG1.out, .inr ⟨HN.out, _, rfl⟩⟩

set_option maxHeartbeats 400000 in
theorem arrayS (g p d : Nat) (n : Int) (s : ByteArray) (w : World) (h : Rdr w g s p) (hs : s.size ≤ 400) (hn2 : 2 ≤ n) (hn3 : n ≤ 1000)
    (ih : ∀ (p : Nat) (w : World), Rdr w g s p → Calls Try.prog 29 #[.pointer (some ⟨g, 0, none⟩), .int .i64 (n - 1)] w (ArrPost s (d + 1) p g w)) :
    Calls Try.prog 29 #[.pointer (some ⟨g, 0, none⟩), .int .i64 n] w (ArrPost s (d + 2) p g w) := by
  have HI := Lib.hid ih
  have HR := Lib.hid h
  have hgw := h.lt
  clear ih h
  have hmf := makeFunc_run
  have e0 : (n == 0) = false := by rw [beq_eq_false_iff_ne]; omega
  have e1 : (n == 1) = false := by rw [beq_eq_false_iff_ne]; omega
  go_enter Try.func29, Try.ntmps29
  go_wp2_with fail
  clear hmf e0 e1
  refine (parts1_any g p _ _ d s _ ((HR.out.alloc _).alloc _) hs ?_).mono ?_
  · intro p' w' hg' hr'
    refine closure_any g _ _ d n s (by omega) (by omega) HI.out p' w' hr' ?_ ?_
    · exact hg'.cell (cell_two w _ _ _ _).1 (by simp; omega)
    · exact hg'.cell (cell_two w _ _ _ _).2 (by simp; omega)
  rintro e w1 ⟨hg1, ⟨ts, q, sv, xs, hn, rfl, hr1, ho1, ha1⟩ | ⟨hn, b, rfl⟩⟩
  · have HG1 := Lib.hid hg1
    have HR1 := Lib.hid hr1
    have HN := Lib.hid hn
    have HA := Lib.hid (rep_node (d := d + 1) ((World.grownBy_alloc _ _ _).trans (World.grownBy_alloc _ _ _)) hg1 ho1 ha1)
    obtain ⟨A1, m1, c1, rfl⟩ := own_form ho1
    clear hg1 hr1 hn ho1 ha1
    go_wp2_with fail
    go_ret
    exact arr_ok (d := d + 2) (t := ts) HN.out ((((World.grownBy_alloc _ _ _).trans (World.grownBy_alloc _ _ _)).trans HG1.out).trans (World.grownBy_alloc _ _ _)) rfl (HR1.out.alloc _) HA.out
  · have HG1 := Lib.hid hg1
    have HN := Lib.hid hn
    clear hg1 hn
    exact ⟨rfl, arr_fell (d := d + 2) HN.out (((World.grownBy_alloc _ _ _).trans (World.grownBy_alloc _ _ _)).trans HG1.out) ⟨_, rfl⟩⟩

theorem array_any (g : Nat) (s : ByteArray) (hs : s.size ≤ 400) : ∀ (d : Nat) (n : Int) (p : Nat) (w : World), n = d → d ≤ 1000 → Rdr w g s p →
    Calls Try.prog 29 #[.pointer (some ⟨g, 0, none⟩), .int .i64 n] w (ArrPost s d p g w)
  | 0, n, p, w, hn, _, h => by obtain rfl : n = 0 := hn; exact array0 g p s w h hs
  | 1, n, p, w, hn, _, h => by obtain rfl : n = 1 := hn; exact array1 g p s w h hs
  | d + 2, n, p, w, hn, hd, h => arrayS g p d n s w h hs (by omega) (by omega) (fun p w h => array_any g s hs (d + 1) (n - 1) p w (by omega) (by omega) h)

end Go.Proofs.Ytachjodnhgmoiaa
