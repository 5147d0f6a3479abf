/- A text of one byte, made of a slice of one byte. -/
import Derived.Test.YtboddoaekcchpaaGreatGr
import Derived.Test.YtboddoaekcchpaaGreatTmT
import Derived.Laws.BytesArg
import Derived.Laws.Concat
namespace Go.Proofs.YtboddoaekcchpaaGreat
open Go.RowKit

def one (c : Int) : ByteArray := strOfNums [c]
theorem one_data (c : Int) : (one c).data.toList = [byt c] := by unfold one; rw [strOfNums_data]; rfl
theorem one_size (c : Int) : (one c).size = 1 := strOfNums_size _
theorem conv_byte (w : World) (c : Int) (k : Nat) (hk : w.heap.size = k) : (convert 22 9 (.slice (some ⟨k, 0, none⟩) 1 1)).run Tryz.prog (w.alloc (.cells #[.int .u8 c] 5)) = .ok (.string (one c)) (w.alloc (.cells #[.int .u8 c] 5)) := by
  subst hk
  refine run_convert_bytes_arg (P := Tryz.prog) _ 22 5 Tryz.underlying22 Tryz.underlying5 w.heap.size 0 1 1 [c] rfl ?_ 9 Tryz.underlying9
  intro i hi
  obtain rfl : i = 0 := by omega
  exact cell_of_row _ _ 0 _ _ (0, 0) (heap_alloc_new _ _)

theorem str_add (y x z : ByteArray) (h : x ++ y = z) (hs : x.size + y.size ≤ 9223372036854775807) (u : World) : (Op.stringOp .add x y).run Tryz.prog u = .ok (.string z) u := by
  rw [← h]; exact run_string_add_sum u x y hs

end Go.Proofs.YtboddoaekcchpaaGreat
