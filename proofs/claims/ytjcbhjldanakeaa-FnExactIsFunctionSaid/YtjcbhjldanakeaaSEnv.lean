/- The model's array of depths by variables: how it lies in memory; l5Start. -/
import Derived.Test.YtjcbhjldanakeaaTDepP
import Derived.Test.YtjcbhjldanakeaaOwn
import Derived.Deep.WholeRow
import Derived.Great.Walk
namespace Go.Proofs.Ytjcbhjldanakeaa
open Go.RowKit

abbrev TE : TypeId := 90
def pve (P : List Int) : Array Value := (P.map (Value.int .i64)).toArray
theorem pve_size (P : List Int) : (pve P).size = P.length := by simp [pve]
theorem zeroE : (∀ w, (zeroValue TE).run Try.prog w = .ok (.agg (Array.replicate 256 (.int .i64 0))) w) ∧ (Try.prog.info? TE).map (·.size) = some 256 := zero_of_info (by kernel_rfl)
theorem underE : Try.prog.underlying TE = some (.array 256 3) := by kernel_rfl
theorem pve_zero : pve (List.replicate 256 0) = Array.replicate 256 (.int .i64 0) := by
  simp only [pve, List.map_replicate, List.toArray_replicate]

/-- A block that holds an array of 256 numbers. -/
def A256 (w : World) (g : Nat) (P : List Int) : Prop := w.heap[g]? = some (.cells (pve P) TE (0, 0)) ∧ P.length = 256
theorem A256.lt {w : World} {g : Nat} {P : List Int} (h : A256 w g P) : g < w.heap.size := (Array.getElem?_eq_some_iff.1 h.1).1
theorem A256.new (w : World) {P : List Int} (h : P.length = 256) : A256 (w.alloc (.cells (pve P) TE)) w.heap.size P := ⟨heap_alloc_last w _, h⟩
theorem A256.grown {w w' : World} {g : Nat} {P : List Int} {row : Option Nat} (h : A256 w g P) (hg : w.grownBy w' row) (hne : some g ≠ row) : A256 w' g P := ⟨(hg.block g h.lt hne).trans h.1, h.2⟩
theorem A256.own {w : World} {g : Nat} {P : List Int} (h : A256 w g P) : w.ownsRow 0 TE 1 (.slice (some ⟨g, 0, none⟩) 256 256) 256 (P.map (Value.int .i64)) :=
  ⟨by simp [h.2], .inr ⟨g, 256, pve P, rfl, Nat.zero_le _, h.1, Nat.le_refl _, by simp [maxLen], by rw [pve_size, h.2], by simp [pve]; rw [← h.2, ← List.length_map (f := Value.int .i64), List.take_length]⟩⟩
theorem A256.cell {w : World} {g : Nat} {P : List Int} (h : A256 w g P) {j : Nat} {x : Int} (hj : P[j]? = some x) : w.cell? ⟨g, j, none⟩ = some (.int .i64 x) := by
  have hl := (List.getElem?_eq_some_iff.1 hj).1
  have h1 := h.own.cellAt j (by have := h.2; omega)
  rw [h1, List.getElem?_map, hj]
  rfl
theorem A256.frozen {w : World} {g : Nat} {P : List Int} (h : A256 w g P) (j : Nat) : w.frozen? ⟨g, j, none⟩ = false := h.own.frozenAt j
theorem A256.set {w : World} {g : Nat} {P : List Int} (h : A256 w g P) (j : Nat) (x : Int) : A256 (w.setCell ⟨g, j, none⟩ (.int .i64 x)) g (P.set j x) ∧ w.grownBy (w.setCell ⟨g, j, none⟩ (.int .i64 x)) (some g) := by
  refine ⟨⟨?_, by rw [List.length_set]; exact h.2⟩, (h.own.stored j _).2⟩
  rw [heap_setCell_same w g j (pve P) TE (.int .i64 x) h.1]
  simp [pve, List.map_set]

/-- .. that says what depths variables have. -/
def EnvAt (w : World) (g : Nat) (e : Int → Int) : Prop := ∃ P, A256 w g P ∧ ∀ k : Nat, k < 256 → P[k]? = some (e (k : Int))
theorem EnvAt.lt {w : World} {g : Nat} {e : Int → Int} (h : EnvAt w g e) : g < w.heap.size := by
  obtain ⟨P, h1, _⟩ := h
  exact h1.lt
theorem EnvAt.grown {w w' : World} {g : Nat} {e : Int → Int} (h : EnvAt w g e) (hg : w.grownBy w' none) : EnvAt w' g e := by
  obtain ⟨P, h1, h2⟩ := h
  exact ⟨P, h1.grown hg (by simp), h2⟩
theorem EnvAt.cell {w : World} {g : Nat} {e : Int → Int} (h : EnvAt w g e) {k : Nat} (hk : k < 256) : w.cell? ⟨g, k, none⟩ = some (.int .i64 (e (k : Int))) := by
  obtain ⟨P, h1, h2⟩ := h
  exact h1.cell (h2 k hk)
theorem EnvAt.frozen {w : World} {g : Nat} {e : Int → Int} (h : EnvAt w g e) (k : Nat) : w.frozen? ⟨g, k, none⟩ = false := by
  obtain ⟨P, h1, _⟩ := h
  exact h1.frozen k
theorem EnvAt.set {w : World} {g : Nat} {e : Int → Int} (h : EnvAt w g e) (k : Nat) (d : Int) : EnvAt (w.setCell ⟨g, k, none⟩ (.int .i64 d)) g (upd e k d) ∧ w.grownBy (w.setCell ⟨g, k, none⟩ (.int .i64 d)) (some g) := by
  obtain ⟨P, h1, h2⟩ := h
  refine ⟨⟨_, (h1.set k d).1, fun j hj => ?_⟩, (h1.set k d).2⟩
  rw [List.getElem?_set]
  unfold upd
  by_cases hjk : k = j
  · subst hjk
    simp
    rw [h1.2]; exact hj
  · have : ¬ ((j : Int) = (k : Int)) := by omega
    rw [if_neg hjk, if_neg this]
    exact h2 j hj
theorem upd_back (e : Int → Int) (k d : Int) : upd (upd e k d) k (e k) = e := by
  funext c
  unfold upd
  by_cases h : c = k
  · rw [if_pos h, h]
  · rw [if_neg h, if_neg h]

set_option maxRecDepth 100000 in
set_option maxHeartbeats 2000000 in
theorem sstart_any (w : World) :
    Calls Try.prog 43 #[] w fun e w' => ∃ g, e = .returned (.pointer (some ⟨g, 0, none⟩)) ∧ w.heap.size ≤ g ∧ w.grownBy w' none ∧ EnvAt w' g env0 := by
  have hz : ∀ w, (zeroValue 90).run Try.prog w = .ok (.agg (Array.replicate 256 (.int .i64 0))) w := zeroE.1
  have HA0 := Lib.hid (by have := A256.new w (P := List.replicate 256 0) (by simp); rw [pve_zero] at this; exact this)
  have HG0 := Lib.hid (World.grownBy_alloc w (.cells (Array.replicate 256 (.int .i64 0)) TE) none)
  go_enter Try.func43, Try.ntmps43
  go_wp2_with fail
  go_loopw [5] (fun i wr => ∃ (j : Nat) (P : List Int), j ≤ 256 ∧ i = .int .i64 j ∧ Hid (A256 wr w.heap.size P) ∧ Hid (∀ k : Nat, k < j → P[k]? = some (-1)) ∧ Hid (w.grownBy wr none)) (fun i _ => 256 - (intOf i).toNat)
  case atStart => exact ⟨0, _, Nat.zero_le _, rfl, HA0, Lib.hid (fun k hk => by omega), HG0⟩
  case round =>
    obtain ⟨j, P, hj, rfl, ha, hp, hgr⟩ := hrel
    have hfr := ha.out.frozen
    by_cases hlt : j < 256
    · have hpl := ha.out.2
      obtain ⟨x, hx⟩ : ∃ x, P[j]? = some x := ⟨_, List.getElem?_eq_getElem (by omega)⟩
      have hcell := ha.out.cell hx
      have hset := ha.out.set j (-1)
      have HST := Lib.hid hset
      have HP2 : Hid (∀ k : Nat, k < j + 1 → (P.set j (-1))[k]? = some (-1)) := Lib.hid (fun k hk => by
        rw [List.getElem?_set]
        by_cases hjk : j = k
        · rw [if_pos hjk, if_pos (by rw [hpl]; exact hlt)]
        · rw [if_neg hjk]; exact hp.out k (by omega))
      clear hset hx hpl
      go_wp2_with fail
      go_roundw
      case rel => exact ⟨j + 1, _, by omega, by go_num, Lib.hid HST.out.1, HP2, Lib.hid (gr_new hgr.out HST.out.2 (Nat.le_refl _))⟩
      case measure => simp [intOf]; omega
    · obtain rfl : j = 256 := by omega
      have he : EnvAt wr w.heap.size (fun _ => -1) := ⟨P, ha.out, hp.out⟩
      have h1 := he.set 97 1
      have h2 := h1.1.set 98 2
      have HE1 := Lib.hid h1
      have HE2 := Lib.hid h2
      have c97 := he.cell (k := 97) (by omega)
      have c98 := h1.1.cell (k := 98) (by omega)
      have f98 := h1.1.frozen 98
      have hfr97 := he.frozen 97
      clear h1 h2 he
      go_wp2_with fail
      go_ret
      refine ⟨_, rfl, Nat.le_refl _, gr_new (gr_new hgr.out HE1.out.2 (Nat.le_refl _)) HE2.out.2 (Nat.le_refl _), ?_⟩
      have := HE2.out.1
      rw [show env0 = upd (upd (fun _ => -1) ((97 : Nat) : Int) 1) ((98 : Nat) : Int) 2 from by
        funext c
        unfold env0 upd
        by_cases h1 : c = 97
        · subst h1; rfl
        · simp [h1]]
      exact this

end Go.Proofs.Ytjcbhjldanakeaa
