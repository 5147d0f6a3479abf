/- The text of an instruction, and what write of the program does, called and deferred. -/
import Derived.Test.YtdfanconjiiceaaDoorBldW
import Derived.Test.YtdfanconjiiceaaDoorOne
import Derived.Test.YtdfanconjiiceaaDoorSTRd
import Derived.Defers
import Derived.Deep.RegionLaw
namespace Go.Proofs.YtdfanconjiiceaaDoor
open Go.RowKit

/-- The text of an instruction of a kind, a sign and a variable. -/
def itx (k c v : Int) : List UInt8 := if k = 5 then [byt c, byt v] else [byt c]
/-- One instruction more, behind a space unless it is the first one. -/
def put (l x : List UInt8) : List UInt8 := (if l = [] then [] else l ++ [32]) ++ x
def puts (l : List UInt8) (xs : List (List UInt8)) : List UInt8 := xs.foldl put l
theorem itx_len (k c v : Int) : 1 ≤ (itx k c v).length ∧ (itx k c v).length ≤ 2 := by unfold itx; split <;> simp
theorem put_len (l x : List UInt8) : (put l x).length ≤ l.length + 1 + x.length := by
  unfold put
  split
  · simp
  · simp; omega
theorem puts_snoc (l : List UInt8) (xs : List (List UInt8)) (x : List UInt8) : puts l (xs ++ [x]) = put (puts l xs) x := by simp [puts]
theorem puts_append (l : List UInt8) (xs ys : List (List UInt8)) : puts l (xs ++ ys) = puts (puts l xs) ys := by simp [puts]
theorem put_none (x : List UInt8) : put [] x = x := by simp [put]
theorem put_some {l : List UInt8} (h : l ≠ []) (x : List UInt8) : put l x = (l ++ [32]) ++ x := by simp [put, h]

theorem conv_twoW (w : World) (a b : Int) (k : Nat) (hk : w.heap.size = k) : (convert 44 9 (.slice (some ⟨k, 0, none⟩) 2 2)).run Tryd.prog (w.alloc (.cells #[.int .u8 a, .int .u8 b] 5)) = .ok (.string (strOfNums [a, b])) (w.alloc (.cells #[.int .u8 a, .int .u8 b] 5)) := by
  subst hk
  refine run_convert_bytes_arg (P := Tryd.prog) _ 44 5 Tryd.underlying44 Tryd.underlying5 w.heap.size 0 2 2 [a, b] rfl ?_ 9 Tryd.underlying9
  intro i hi
  have : i = 0 ∨ i = 1 := by omega
  rcases this with rfl | rfl
  · exact cell_of_row _ _ 0 _ _ (0, 0) (heap_alloc_new _ _)
  · exact cell_of_row _ _ 1 _ _ (0, 0) (heap_alloc_new _ _)

set_option maxHeartbeats 1000000 in
theorem itext_any (k c v : Int) (w : World) :
    Calls Tryd.prog 16 #[.agg #[.int .i64 k, .int .u8 c, .int .u8 v]] w fun e w' => e = .returned (.string ⟨(itx k c v).toArray⟩) ∧ w.grownBy w' none := by
  obtain ⟨w1, hw1⟩ : ∃ z, w.alloc (.cells #[.int .i64 k, .int .u8 c, .int .u8 v] 59) = z := ⟨_, rfl⟩
  have hx : C3 w1 w.heap.size (.int .i64 k) (.int .u8 c) (.int .u8 v) 59 := by rw [← hw1]; exact c3_new _ _ _ _ _
  have g1 : w.grownBy w1 none := by rw [← hw1]; exact World.grownBy_alloc _ _ _
  have x0 := hx.c0
  have x1 := hx.c1
  have x2 := hx.c2
  have HG1 := Lib.hid g1
  obtain ⟨z, hz⟩ : ∃ z : ByteArray, ⟨(itx k c v).toArray⟩ = z := ⟨_, rfl⟩
  rw [hz]
  unfold itx at hz
  clear hx g1
  by_cases h5 : k = 5
  · subst h5
    rw [if_pos rfl] at hz
    have hcv := conv_twoW w1 c v w1.heap.size rfl
    rw [show strOfNums [c, v] = z from hz] at hcv
    clear hz
    go_enter Tryd.func16, Tryd.ntmps16
    go_wp2_with fail
    go_ret
    exact ⟨rfl, HG1.out.trans (World.grownBy_alloc _ _ _)⟩
  · rw [if_neg h5] at hz
    have e5 : (k == 5) = false := by simpa using h5
    have hcv := conv_byte w1 c w1.heap.size rfl
    rw [show one c = z from hz] at hcv
    clear hz
    go_enter Tryd.func16, Tryd.ntmps16
    go_wp2_with fail
    go_ret
    exact ⟨rfl, HG1.out.trans (World.grownBy_alloc _ _ _)⟩

/-- How what writes ends. -/
def WrP (B b : Nat) (l : List UInt8) (w : World) (e : Ending) (w' : World) : Prop := e = .returned (.tuple #[]) ∧ WB w' B b l ∧ Below B w w' ∧ Kp w w'

set_option maxRecDepth 100000 in
set_option maxHeartbeats 2000000 in
theorem write_two (B b : Nat) (l : List UInt8) (k c v : Int) (w : World) (h : WB w B b l) (hl : l.length ≤ 10000) :
    Calls Tryd.prog 26 #[.pointer (some ⟨b, 0, none⟩), .agg #[.int .i64 k, .int .u8 c, .int .u8 v]] w (WrP B b (put l (itx k c v)) w) ∧
    ∀ um, CallsD Tryd.prog 26 #[.pointer (some ⟨b, 0, none⟩), .agg #[.int .i64 k, .int .u8 c, .int .u8 v]] um w fun e u' w' => u' = um ∧ WrP B b (put l (itx k c v)) w e w' := by
  obtain ⟨w1, hw1⟩ : ∃ z, w.alloc (.cells #[.int .i64 k, .int .u8 c, .int .u8 v] 59) = z := ⟨_, rfl⟩
  have hx : C3 w1 w.heap.size (.int .i64 k) (.int .u8 c) (.int .u8 v) 59 := by rw [← hw1]; exact c3_new _ _ _ _ _
  have g1 : w.grownBy w1 none := by rw [← hw1]; exact World.grownBy_alloc _ _ _
  have hwb := h.grown g1
  have hBw : B ≤ w.heap.size := by have := h.lt; omega
  have HBE := Lib.hid ((Below.refl B w).grown g1 hBw (fun k hk => by cases hk))
  have HKP := Lib.hid (Kp.grown g1)
  have HLEN := Lib.hid (blen_any B b l w1 hwb)
  have HX := Lib.hid hx
  have hil := itx_len k c v
  have HT := Lib.hid (fun u => itext_any k c v u)
  obtain ⟨z, hz⟩ : ∃ z : ByteArray, ⟨(itx k c v).toArray⟩ = z := ⟨_, rfl⟩
  have hzd : itx k c v = z.data.toList := by rw [← hz]
  have hzs : z.size ≤ 2 := by rw [← hz]; simpa [ByteArray.size] using hil.2
  rw [hz] at HT
  rw [hzd]
  clear hz hzd hil g1
  by_cases h0 : l = []
  · subst h0
    have HWB := Lib.hid hwb
    rw [put_none]
    have x0 := HX.out.c0
    have x1 := HX.out.c1
    have x2 := HX.out.c2
    clear h hwb hx
    refine ⟨?g1, fun um => ?g2⟩
    case' g1 => go_enter Tryd.func26, Tryd.ntmps26
    case' g2 => go_enter_d Tryd.func26, Tryd.ntmps26
    all_goals
      go_wp2_with fail
      refine HLEN.out.mono ?_
      rintro e w2 ⟨rfl, rfl⟩
      go_wp2_with fail
      go_region_law (first
        | (go_simp
           go_at_call 41
           refine (wstr_any B b [] z _ HW3.out (by simp) (by omega)).mono ?_
           rintro e w4 ⟨rfl, hw4, hb4, hk4⟩
           have HW4 := Lib.hid hw4
           have HB4 := Lib.hid hb4
           have HK4 := Lib.hid hk4
           clear hw4 hb4 hk4)
        | (go_simp
           go_at_call 16
           refine (HT.out _).mono ?_
           rintro e w3 ⟨rfl, hg3⟩
           have HG3 := Lib.hid ((gr_drewN w2 1 none).trans hg3)
           have HW3 := Lib.hid (HWB.out.grown HG3.out)
           clear hg3))
      all_goals
        go_wp2_with fail
        go_end0
        exact ⟨rfl, HW4.out.wb, HBE.out.trans (((Below.refl B w2).grown HG3.out (by have := HWB.out.lt; omega) (fun k hk => by cases hk)).trans HB4.out), HKP.out.trans ((Kp.grown HG3.out).trans HK4.out)⟩
  · rw [put_some h0]
    have HWY := Lib.hid (wbyte_any B b l 32 32 rfl w1 hwb (by omega))
    have hll : (l ++ [32]).length ≤ 100000 := by simp; omega
    have HLL := Lib.hid hll
    obtain ⟨n, hn⟩ : ∃ n, l.length = n := ⟨_, rfl⟩
    have hn0 : 0 < n := by rw [← hn]; exact List.length_pos_iff.2 h0
    rw [hn] at HLEN
    clear h hwb hx h0 hll hn
    refine ⟨?g3, fun um => ?g4⟩
    case' g3 => go_enter Tryd.func26, Tryd.ntmps26
    case' g4 => go_enter_d Tryd.func26, Tryd.ntmps26
    all_goals
      go_wp2_with fail
      refine HLEN.out.mono ?_
      rintro e w2 ⟨rfl, rfl⟩
      go_wp2_with fail
      refine HWY.out.mono ?_
      rintro e w5 ⟨rfl, hw5, hb5, hk5⟩
      have hx5 : C3 w5 w.heap.size (.int .i64 k) (.int .u8 c) (.int .u8 v) 59 := hk5 _ _ _ _ (by decide) (by decide) HX.out
      have x0 := hx5.c0
      have x1 := hx5.c1
      have x2 := hx5.c2
      have HWB := Lib.hid hw5.wb
      have HB5 := Lib.hid hb5
      have HK5 := Lib.hid hk5
      clear hw5 hb5 hk5 hx5
      go_wp2_with fail
      go_region_law (first
        | (go_simp
           go_at_call 41
           refine (wstr_any B b _ z _ HW3.out HLL.out (by omega)).mono ?_
           rintro e w4 ⟨rfl, hw4, hb4, hk4⟩
           have HW4 := Lib.hid hw4
           have HB4 := Lib.hid hb4
           have HK4 := Lib.hid hk4
           clear hw4 hb4 hk4)
        | (go_simp
           go_at_call 16
           refine (HT.out _).mono ?_
           rintro e w3 ⟨rfl, hg3⟩
           have HG3 := Lib.hid ((gr_drewN w5 1 none).trans hg3)
           have HW3 := Lib.hid (HWB.out.grown HG3.out)
           clear hg3))
      all_goals
        go_wp2_with fail
        go_end0
        exact ⟨rfl, HW4.out.wb, HBE.out.trans (HB5.out.trans (((Below.refl B w5).grown HG3.out (by have := HWB.out.lt; omega) (fun k hk => by cases hk)).trans HB4.out)), HKP.out.trans (HK5.out.trans ((Kp.grown HG3.out).trans HK4.out))⟩

theorem write_any (B b : Nat) (l : List UInt8) (k c v : Int) (w : World) (h : WB w B b l) (hl : l.length ≤ 10000) :
    Calls Tryd.prog 26 #[.pointer (some ⟨b, 0, none⟩), .agg #[.int .i64 k, .int .u8 c, .int .u8 v]] w (WrP B b (put l (itx k c v)) w) := (write_two B b l k c v w h hl).1
theorem write_late (B b : Nat) (l : List UInt8) (k c v : Int) (w : World) (h : WB w B b l) (hl : l.length ≤ 10000) (um : FrameMode) :
    CallsD Tryd.prog 26 #[.pointer (some ⟨b, 0, none⟩), .agg #[.int .i64 k, .int .u8 c, .int .u8 v]] um w fun e u' w' => u' = um ∧ WrP B b (put l (itx k c v)) w e w' := (write_two B b l k c v w h hl).2 um

end Go.Proofs.YtdfanconjiiceaaDoor
