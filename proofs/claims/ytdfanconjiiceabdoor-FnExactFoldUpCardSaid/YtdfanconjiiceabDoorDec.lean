/- What the model's l13Dec does on numbers from 0 on: their decimal text. -/
import Derived.Test.YtdfanconjiiceabDoorStrsF
import Derived.Test.YtdfanconjiiceabDoorGr
import Derived.Test.YtdfanconjiiceabDoorText
import Derived.IntWalk
import Derived.Laws.BytesArg
namespace Go.Proofs.YtdfanconjiiceabDoor
open Go.RowKit

theorem conv_one (w : World) (b : Int) : (convert 47 9 (.slice (some ⟨w.heap.size, 0, none⟩) 1 1)).run Tryd.prog (w.alloc (.cells #[.int .u8 b] 5)) = .ok (.string (strOfNums [b])) (w.alloc (.cells #[.int .u8 b] 5)) := by
  refine run_convert_bytes_arg (P := Tryd.prog) _ 47 5 Tryd.underlying47 Tryd.underlying5 w.heap.size 0 1 1 [b] rfl ?_ 9 Tryd.underlying9
  intro i hi
  obtain rfl : i = 0 := by omega
  exact cell_of_row _ _ 0 _ _ (0, 0) (heap_alloc_new _ _)

set_option maxHeartbeats 400000 in
theorem dec_any (n : Nat) (w : World) (hn : n ≤ 60000) :
    Calls Tryd.prog 101 #[.int .i64 (n : Int)] w fun e w' => (∃ t : ByteArray, e = .returned (.string t) ∧ t.data.toList = dec n) ∧ w.grownBy w' none := by
  go_enter Tryd.func101, Tryd.ntmps101
  go_wp2_with fail
  go_loopw [0, 3] (fun u v wr => ∃ (m : Nat) (t : ByteArray), t.size + m ≤ n ∧ u = .int .i64 m ∧ v = .string t ∧ Hid (dec n = dec m ++ t.data.toList) ∧ Hid (w.grownBy wr none)) (fun u _ _ => (intOf u).toNat)
  case atStart => exact ⟨n, ⟨#[]⟩, by simp [ByteArray.size], rfl, rfl, Lib.hid (by simp), Lib.hid (gr_refl _ _)⟩
  case round =>
    obtain ⟨m, t, hm, rfl, rfl, ht, hgr⟩ := hrel
    have hcv := conv_one wr
    by_cases h9 : 9 < m
    · have hs1 : (strOfNums [48 + (m : Int) % 10]).size = 1 := strOfNums_size _
      have HS1 := Lib.hid hs1
      clear hs1
      have hlt : (strOfNums [48 + (m : Int) % 10]).size + t.size ≤ 60001 := by rw [HS1.out]; omega
      go_wp2_with fail
      go_roundw
      case rel =>
        refine ⟨m / 10, strOfNums [48 + (m : Int) % 10] ++ t, by rw [ByteArray.size_append, HS1.out]; omega, by simp, rfl, Lib.hid ?_, Lib.hid (hgr.out.trans (World.grownBy_alloc _ _ _))⟩
        rw [ht.out, dec_high h9, ByteArray.data_append, Array.toList_append, strOfNums_data]
        have e : (48 + (m : Int) % 10).toNat = 48 + m % 10 := by omega
        simp [e]
      case measure => simp [intOf]; omega
    · have hs1 : (strOfNums [48 + (m : Int)]).size = 1 := strOfNums_size _
      have HS1 := Lib.hid hs1
      clear hs1
      have hlt : (strOfNums [48 + (m : Int)]).size + t.size ≤ 60001 := by rw [HS1.out]; omega
      go_wp2_with fail
      go_ret
      refine ⟨⟨_, rfl, ?_⟩, hgr.out.trans (World.grownBy_alloc _ _ _)⟩
      rw [ht.out, dec_low (by omega), ByteArray.data_append, Array.toList_append, strOfNums_data]
      have e : (48 + (m : Int)).toNat = 48 + m := by omega
      simp [e]

end Go.Proofs.YtdfanconjiiceabDoor
