/- A text of one byte, made of a slice of one byte. -/
import Derived.Test.YtfaeolnmkdjhaaaDoorGr
import Derived.Test.YtfaeolnmkdjhaaaDoorTmT
import Derived.Laws.BytesArg
namespace Go.Proofs.YtfaeolnmkdjhaaaDoor
open Go.RowKit

def one (c : Int) : ByteArray := strOfNums [c]
theorem one_data (c : Int) : (one c).data.toList = [byt c] := by unfold one; rw [strOfNums_data]; rfl
theorem one_size (c : Int) : (one c).size = 1 := strOfNums_size _
theorem conv_byte (w : World) (c : Int) (k : Nat) (hk : w.heap.size = k) : (convert 60 9 (.slice (some ⟨k, 0, none⟩) 1 1)).run Tryd.prog (w.alloc (.cells #[.int .u8 c] 5)) = .ok (.string (one c)) (w.alloc (.cells #[.int .u8 c] 5)) := by
  subst hk
  refine run_convert_bytes_arg (P := Tryd.prog) _ 60 5 Tryd.underlying60 Tryd.underlying5 w.heap.size 0 1 1 [c] rfl ?_ 9 Tryd.underlying9
  intro i hi
  obtain rfl : i = 0 := by omega
  exact cell_of_row _ _ 0 _ _ (0, 0) (heap_alloc_new _ _)

end Go.Proofs.YtfaeolnmkdjhaaaDoor
