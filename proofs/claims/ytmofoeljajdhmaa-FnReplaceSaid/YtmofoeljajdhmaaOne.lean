/- A text of one byte, made of a slice of one byte. -/
import Derived.Test.YtmofoeljajdhmaaGr
import Derived.Test.YtmofoeljajdhmaaTmT
import Derived.Laws.BytesArg
namespace Go.Proofs.Ytmofoeljajdhmaa
open Go.RowKit

def one (c : Int) : ByteArray := strOfNums [c]
theorem one_data (c : Int) : (one c).data.toList = [byt c] := by unfold one; rw [strOfNums_data]; rfl
theorem one_size (c : Int) : (one c).size = 1 := strOfNums_size _
theorem conv_byte (w : World) (c : Int) (k : Nat) (hk : w.heap.size = k) : (convert 27 9 (.slice (some ⟨k, 0, none⟩) 1 1)).run Try.prog (w.alloc (.cells #[.int .u8 c] 5)) = .ok (.string (one c)) (w.alloc (.cells #[.int .u8 c] 5)) := by
  subst hk
  refine run_convert_bytes_arg (P := Try.prog) _ 27 5 Try.underlying27 Try.underlying5 w.heap.size 0 1 1 [c] rfl ?_ 9 Try.underlying9
  intro i hi
  obtain rfl : i = 0 := by omega
  exact cell_of_row _ _ 0 _ _ (0, 0) (heap_alloc_new _ _)

end Go.Proofs.Ytmofoeljajdhmaa
