/- Arrays of 400 ints in memory, and their operations. -/
import Derived.Test.YtpakihjkjdanlaaPerm
import Derived.Test.YtpakihjkjdanlaaOwnI
import Derived.Deep.WholeRow
import Derived.Laws.IdiomCopy
import Derived.Great.Walk
namespace Go.Proofs.Ytpakihjkjdanlaa
open Go.RowKit

abbrev TP : TypeId := 59
/-- The cells of an array. -/
def pvc (P : List Int) : Array Value := (P.map (Value.int .i64)).toArray
theorem pvc_size (P : List Int) : (pvc P).size = P.length := by simp [pvc]
theorem pvc_one (P : List Int) : (pvc P).all (·.oneCell') = true := by simp [pvc, Value.oneCell']
theorem pvc_inj {P Q : List Int} (h : pvc P = pvc Q) : P = Q := by
  have h1 : P.map (Value.int .i64) = Q.map (Value.int .i64) := by simpa [pvc] using h
  exact (List.map_inj_right (fun x y e => by simpa using e)).1 h1
theorem zeroP : (∀ w, (zeroValue TP).run Try.prog w = .ok (.agg (Array.replicate 400 (.int .i64 0))) w) ∧ (Try.prog.info? TP).map (·.size) = some 400 := zero_of_info (by kernel_rfl)
theorem underP : Try.prog.underlying TP = some (.array 400 3) := by kernel_rfl
theorem pvc_zero : pvc (List.replicate 400 0) = Array.replicate 400 (.int .i64 0) := by
  simp only [pvc, List.map_replicate, List.toArray_replicate]

/-- A block that holds an array. -/
def ArrAt (w : World) (g : Nat) (P : List Int) : Prop := w.heap[g]? = some (.cells (pvc P) TP (0, 0)) ∧ P.length = 400
theorem ArrAt.lt {w : World} {g : Nat} {P : List Int} (h : ArrAt w g P) : g < w.heap.size := (Array.getElem?_eq_some_iff.1 h.1).1
theorem ArrAt.new (w : World) {P : List Int} (h : P.length = 400) : ArrAt (w.alloc (.cells (pvc P) TP)) w.heap.size P := ⟨heap_alloc_last w _, h⟩
theorem ArrAt.grown {w w' : World} {g : Nat} {P : List Int} {row : Option Nat} (h : ArrAt w g P) (hg : w.grownBy w' row) (hne : some g ≠ row) : ArrAt w' g P := ⟨(hg.block g h.lt hne).trans h.1, h.2⟩
theorem ArrAt.own {w : World} {g : Nat} {P : List Int} (h : ArrAt w g P) : w.ownsRow 0 TP 1 (.slice (some ⟨g, 0, none⟩) 400 400) 400 (P.map (Value.int .i64)) :=
  ⟨by simp [h.2], .inr ⟨g, 400, pvc P, rfl, Nat.zero_le _, h.1, Nat.le_refl _, by simp [maxLen], by rw [pvc_size, h.2], by simp [pvc]; rw [← h.2, ← List.length_map (f := Value.int .i64), List.take_length]⟩⟩
theorem ArrAt.cell {w : World} {g : Nat} {P : List Int} (h : ArrAt w g P) {j : Nat} {x : Int} (hj : P[j]? = some x) : w.cell? ⟨g, j, none⟩ = some (.int .i64 x) := by
  have hl := (List.getElem?_eq_some_iff.1 hj).1
  have h1 := h.own.cellAt j (by have := h.2; omega)
  rw [h1, List.getElem?_map, hj]
  rfl
theorem ArrAt.frozen {w : World} {g : Nat} {P : List Int} (h : ArrAt w g P) (j : Nat) : w.frozen? ⟨g, j, none⟩ = false := h.own.frozenAt j
theorem ArrAt.set {w : World} {g : Nat} {P : List Int} (h : ArrAt w g P) (j : Nat) (x : Int) : ArrAt (w.setCell ⟨g, j, none⟩ (.int .i64 x)) g (P.set j x) ∧ w.grownBy (w.setCell ⟨g, j, none⟩ (.int .i64 x)) (some g) := by
  refine ⟨⟨?_, by rw [List.length_set]; exact h.2⟩, (h.own.stored j _).2⟩
  rw [heap_setCell_same w g j (pvc P) TP (.int .i64 x) h.1]
  simp [pvc, List.map_set]
theorem ArrAt.putAll {w : World} {g : Nat} {P Q : List Int} (h : ArrAt w g P) (hQ : Q.length = 400) : ArrAt (w.setRow g (pvc Q)) g Q ∧ w.grownBy (w.setRow g (pvc Q)) (some g) :=
  ⟨⟨setRow_heap w g (pvc P) _ TP _ h.1, hQ⟩, ⟨rfl, rfl, rfl, by simp, fun k _ hk => setRow_other w g k _ (fun e => hk (by simp [e]))⟩⟩

/-! ### Operations on a whole array, for a walk -/
theorem load_arr {w : World} {g : Nat} {P : List Int} (h : ArrAt w g P) : (loadVar TP ⟨g, 0, none⟩).run Try.prog w = .ok (.agg (pvc P)) w :=
  run_loadVar_row w g TP TP (pvc P) (0, 0) _ h.1 underP rfl (by rw [pvc_size, h.2]; exact zeroP.2)
theorem store_arr {w : World} {g : Nat} {P Q : List Int} (h : ArrAt w g P) (hQ : Q.length = 400) : (storeVar TP ⟨g, 0, none⟩ (.agg (pvc Q))).run Try.prog w = .ok () (w.setRow g (pvc Q)) :=
  run_storeVar_row w g TP TP (pvc P) (pvc Q) h.1 (by rw [pvc_size, hQ]; exact zeroP.2) (by rw [pvc_size, pvc_size, h.2, hQ]) (pvc_one Q)
theorem exec_load {o : Oper} {ev : Operand → Value} {w : World} {x : Operand} {g : Nat} {P : List Int} (ho : o.op = .load TP x) (hx : ev x = .pointer (some ⟨g, 0, none⟩)) (h : ArrAt w g P) :
    (execOp ev o).run Try.prog w = .ok (.value (.agg (pvc P))) w := by
  simp only [execOp, ho, hx]
  simp [Instr.loadAt, Instr.sureAddr, Result.andThen, load_arr h]
theorem exec_store {o : Oper} {ev : Operand → Value} {w : World} {x y : Operand} {g : Nat} {P Q : List Int} (ho : o.op = .store TP x y) (hx : ev x = .pointer (some ⟨g, 0, none⟩)) (hy : ev y = .agg (pvc Q)) (h : ArrAt w g P) (hQ : Q.length = 400) :
    (execOp ev o).run Try.prog w = .ok .skip (w.setRow g (pvc Q)) := by
  simp only [execOp, ho, hx, hy]
  simp [Instr.storeAt, Instr.sureAddr, Result.andThen, store_arr h hQ]
theorem wp_load {ops : Array Oper} {rest : List Oper} {o : Oper} {a : Act} {w : World} {Q : Exit → Act → World → Prop} (hg : o.guard = none) (dst : Option Tmp) (hdst : o.dst = dst) (x : Operand) (ho : o.op = .load TP x) (g : Nat) (hx : a.eval x = .pointer (some ⟨g, 0, none⟩)) (P : List Int) (h : ArrAt w g P)
    (hn : wpList Try.prog ops Q rest (a.put dst (.agg (pvc P))) w) : wpList Try.prog ops Q (o :: rest) a w :=
  Go.Great.wpList_runTo hg dst hdst _ w (exec_load ho hx h) hn
theorem wp_store {ops : Array Oper} {rest : List Oper} {o : Oper} {a : Act} {w : World} {R : Exit → Act → World → Prop} (hg : o.guard = none) (x y : Operand) (ho : o.op = .store TP x y) (g : Nat) (hx : a.eval x = .pointer (some ⟨g, 0, none⟩)) (P Q : List Int) (hy : a.eval y = .agg (pvc Q)) (h : ArrAt w g P) (hQ : Q.length = 400)
    (hn : wpList Try.prog ops R rest (a.put o.dst undef) (w.setRow g (pvc Q))) : wpList Try.prog ops R (o :: rest) a w := by
  refine wpList_plain hg fun K hK => ?_
  unfold Oper.wp
  rw [exec_store ho hx hy h hQ, Oper.upon_skip]
  exact hK _ _ hn

end Go.Proofs.Ytpakihjkjdanlaa
