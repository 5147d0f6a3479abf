/- The laws' markStringS on a row of strings: what it answers, and what it leaves alone. -/
import Derived.Test.YtdfanconjiiceaaStrs
import Derived.Laws.BytesArg
import Derived.Laws.Concat
namespace Go.Proofs.Ytdfanconjiiceaa
open Go.RowKit

def oneM (c : Int) : ByteArray := strOfNums [c]
theorem oneM_size (c : Int) : (oneM c).size = 1 := strOfNums_size _
theorem conv_byteM (w : World) (c : Int) : (convert 52 9 (.slice (some ⟨w.heap.size, 0, none⟩) 1 1)).run Try.prog (w.alloc (.cells #[.int .u8 c] 5)) = .ok (.string (oneM c)) (w.alloc (.cells #[.int .u8 c] 5)) := by
  refine run_convert_bytes_arg (P := Try.prog) _ 52 5 Try.underlying52 Try.underlying5 w.heap.size 0 1 1 [c] rfl ?_ 9 Try.underlying9
  intro i hi
  obtain rfl : i = 0 := by omega
  exact cell_of_row _ _ 0 _ _ (0, 0) (heap_alloc_new _ _)
theorem str_addM (y x z : ByteArray) (h : x ++ y = z) (hs : x.size + y.size ≤ 9223372036854775807) (u : World) : (Op.stringOp .add x y).run Try.prog u = .ok (.string z) u := by
  rw [← h]; exact run_string_add_sum u x y hs

set_option maxRecDepth 100000 in
set_option maxHeartbeats 1000000 in
theorem marktextM_any (n : Nat) (w : World) (h1 : 1 ≤ n) (hn : n ≤ 2000000) :
    Calls Try.prog 49 #[.int .i64 (n : Int)] w fun e w' => (∃ s, e = .returned (.string s)) ∧ w.grownBy w' none := by
  go_enter Try.func49, Try.ntmps49
  go_wp2_with fail
  go_loopw [0, 3] (fun u v wr => ∃ (m : Nat) (t : ByteArray), t.size + m ≤ n ∧ u = .int .i64 m ∧ v = .string t ∧ Hid (w.grownBy wr none)) (fun u _ _ => (intOf u).toNat)
  case atStart => exact ⟨n, ⟨#[]⟩, by simp [ByteArray.size], rfl, rfl, Lib.hid (gr_refl _ _)⟩
  case round =>
    obtain ⟨m, t, hm, rfl, rfl, hgr⟩ := hrel
    by_cases h0 : 0 < m
    · have hcv := conv_byteM wr (48 + (m : Int) % 10)
      obtain ⟨z, hz⟩ : ∃ z, oneM (48 + (m : Int) % 10) ++ t = z := ⟨_, rfl⟩
      have hadd := fun u => str_addM t (oneM (48 + (m : Int) % 10)) z hz (by rw [oneM_size]; omega) u
      have hzs : z.size = 1 + t.size := by rw [← hz, ByteArray.size_append, oneM_size]
      have HZS := Lib.hid hzs
      clear hz hzs
      go_wp2_with fail
      go_roundw
      case rel => exact ⟨m / 10, z, by rw [HZS.out]; omega, by simp, rfl, Lib.hid (hgr.out.trans (World.grownBy_alloc _ _ _))⟩
      case measure => simp [intOf]; omega
    · obtain rfl : m = 0 := by omega
      obtain ⟨z, hz⟩ : ∃ z : ByteArray, { data := #[109] } ++ t = z := ⟨_, rfl⟩
      have hadd := fun u => str_addM t { data := #[109] } z hz (by have : ({ data := #[109] } : ByteArray).size = 1 := rfl; omega) u
      clear hz
      go_wp2_with fail
      go_ret
      exact ⟨⟨_, rfl⟩, hgr.out⟩

/-- A block of strings. -/
def RowS (w : World) (g n : Nat) : Prop := ∃ cur : Array Value, w.heap[g]? = some (.cells cur 9 (0, 0)) ∧ cur.size = n
theorem Row.s {w : World} {g n j : Nat} {ss : List ByteArray} (h : Row w g n j ss) : RowS w g n := by
  obtain ⟨cur, h1, h2, _⟩ := h
  exact ⟨cur, h1, h2⟩
theorem RowS.grown {w w' : World} {g n : Nat} (h : RowS w g n) (hg : w.grownBy w' none) : RowS w' g n := by
  obtain ⟨cur, h1, h2⟩ := h
  exact ⟨cur, (hg.block g (Array.getElem?_eq_some_iff.1 h1).1 (by simp)).trans h1, h2⟩
theorem RowS.c {w : World} {g n j : Nat} (h : RowS w g n) (hj : j < n) : ∃ v, w.cell? ⟨g, j, none⟩ = some v := by
  obtain ⟨cur, hh, hs⟩ := h
  exact ⟨cur[j], by rw [cell_of_row w g j cur _ (0, 0) hh]; exact Array.getElem?_eq_getElem (by omega)⟩
theorem RowS.f {w : World} {g n : Nat} (h : RowS w g n) (i : Nat) : w.frozen? ⟨g, i, none⟩ = false := by
  obtain ⟨cur, hh, _⟩ := h
  simp [World.frozen?, hh]
theorem RowS.set_ {w : World} {g n : Nat} (h : RowS w g n) (j : Nat) (u : Value) : RowS (w.setCell ⟨g, j, none⟩ u) g n := by
  obtain ⟨cur, hh, hz⟩ := h
  exact ⟨cur.setIfInBounds j u, by simp [World.setCell, Array.getElem?_modify, hh], by simpa using hz⟩

set_option maxRecDepth 100000 in
set_option maxHeartbeats 1000000 in
theorem markS_any (g n c k : Nat) (w : World) (h : RowS w g n) (hk : 1 ≤ k) (hn : k + n ≤ 2000000) :
    Calls Try.prog 18 #[.slice (some ⟨g, 0, none⟩) n c, .int .i64 (k : Int)] w fun e w' => e = .returned (.int .i64 ((k + n : Nat) : Int)) ∧ w.grownBy w' (some g) := by
  have H := Lib.hid h
  clear h
  go_enter Try.func18, Try.ntmps18
  go_wp2_with fail
  go_loopw [1, 5] (fun q i wr => ∃ j : Nat, j ≤ n ∧ i = .int .i64 j ∧ q = .int .i64 ((k + j : Nat) : Int) ∧ Hid (RowS wr g n) ∧ Hid (w.grownBy wr (some g))) (fun _ i _ => n - (intOf i).toNat)
  case atStart => exact ⟨0, Nat.zero_le _, rfl, rfl, H, Lib.hid (gr_refl _ _)⟩
  case round =>
    obtain ⟨j, hj, rfl, rfl, hrow, hgr⟩ := hrel
    by_cases hlt : j < n
    · obtain ⟨kj, hkj⟩ : ∃ kj : Nat, k + j = kj := ⟨_, rfl⟩
      have HKJ := Lib.hid hkj
      rw [hkj]
      have HM := Lib.hid (fun w => marktextM_any kj w (by omega) (by omega))
      have hk2 : kj ≤ 2000000 := by omega
      clear hkj
      go_wp2_with fail
      refine (HM.out _).mono ?_
      rintro e w2 ⟨⟨s, rfl⟩, hg2⟩
      have hr2 := hrow.out.grown hg2
      obtain ⟨v0, hv0⟩ := hr2.c hlt
      have hf0 := hr2.f j
      have HR2 := Lib.hid hr2
      have HG2 := Lib.hid (hgr.out.trans (show wr.grownBy w2 (some g) from ⟨hg2.os, hg2.tape, hg2.output, hg2.size, fun k hk _ => hg2.block k hk (by simp)⟩))
      clear hr2 hg2
      go_wp2_with fail
      go_roundw
      case rel => exact ⟨j + 1, by omega, by go_num, by have := HKJ.out; first | (rw [show k + (j + 1) = kj + 1 from by omega]; go_num), Lib.hid (HR2.out.set_ j _), Lib.hid (HG2.out.trans (gr_set w2 g j (.string s)))⟩
      case measure => simp [intOf]; omega
    · have hjn : j = n := by omega
      have HJ := Lib.hid hjn
      clear hjn
      go_wp2_with fail
      go_ret
      exact ⟨by rw [HJ.out]; rfl, hgr.out⟩

end Go.Proofs.Ytdfanconjiiceaa
