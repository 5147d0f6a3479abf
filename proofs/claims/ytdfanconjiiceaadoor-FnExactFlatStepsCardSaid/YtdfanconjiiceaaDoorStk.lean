/- What the stacks of the program do: push and pop of terms, of loops that have begun. -/
import Derived.Test.YtdfanconjiiceaaDoorMach
import Derived.Test.YtdfanconjiiceaaDoorGr
namespace Go.Proofs.YtdfanconjiiceaaDoor
open Go.RowKit

theorem infoTm : (Tryd.prog.info? 40).map (fun i => (i.zero, i.size, i.bytes)) = some (some .nilIface, 1, 16) := by kernel_rfl
theorem infoOut : (Tryd.prog.info? 117).map (fun i => (i.zero, i.size, i.bytes)) = some (some (.agg #[.pointer none, .slice none 0 0]), 2, 32) := by kernel_rfl

/-- The reader's block. -/
def CR (w : World) (b : Nat) (v0 v1 : Value) : Prop := w.heap[b]? = some (.cells #[v0, v1] 85 (0, 0))
section
variable {w w' : World} {b : Nat} {v0 v1 : Value}
theorem CR.c0 (h : CR w b v0 v1) : w.cell? ⟨b, 0, none⟩ = some v0 := cell_of_row w b 0 _ _ (0, 0) h
theorem CR.c1 (h : CR w b v0 v1) : w.cell? ⟨b, 1, none⟩ = some v1 := cell_of_row w b 1 _ _ (0, 0) h
theorem CR.f (h : CR w b v0 v1) (i : Nat) : w.frozen? ⟨b, i, none⟩ = false := by unfold CR at h; simp [World.frozen?, h]
theorem CR.lt (h : CR w b v0 v1) : b < w.heap.size := blk_lt h
theorem CR.set0 (h : CR w b v0 v1) (u : Value) : CR (w.setCell ⟨b, 0, none⟩ u) b u v1 := by unfold CR at h ⊢; simp [World.setCell, Array.getElem?_modify, h]
theorem CR.set1 (h : CR w b v0 v1) (u : Value) : CR (w.setCell ⟨b, 1, none⟩ u) b v0 u := by unfold CR at h ⊢; simp [World.setCell, Array.getElem?_modify, h]
theorem CR.grown {row : Option Nat} (h : CR w b v0 v1) (hg : w.grownBy w' row) (hne : some b ≠ row) : CR w' b v0 v1 := (hg.block b h.lt hne).trans h
theorem CR.alloc (h : CR w b v0 v1) (o : Obj) : CR (w.alloc o) b v0 v1 := (Below.heap_alloc w o b h.lt).trans h
theorem CR.drewN (h : CR w b v0 v1) (n : Nat) : CR (w.drewN n) b v0 v1 := h
end

/-- How a push of a term ends. -/
def PushT (n0 b : Nat) (v0 v1 x : Value) (vs : List Value) (w : World) (e : Ending) (w' : World) : Prop :=
  e = .returned (.tuple #[]) ∧ ∃ u, CR w' b u v1 ∧ w'.ownsRow n0 40 1 u (vs ++ [x]).length (vs ++ [x]) ∧ Chg (fun k => k = b ∨ v0.ownBlock = some k) w w' ∧ (∀ g, u.ownBlock = some g → v0.ownBlock = some g ∨ w.heap.size ≤ g)

set_option maxRecDepth 100000 in
set_option maxHeartbeats 1000000 in
theorem push_t (n0 b : Nat) (v0 v1 : Value) (ty : TypeId) (pv : Value) (vs : List Value) (w : World) (h : CR w b v0 v1) (ho : w.ownsRow n0 40 1 v0 vs.length vs) (hl : vs.length ≤ 1000000) (hn : n0 ≤ w.heap.size) :
    Calls Tryd.prog 44 #[.pointer (some ⟨b, 0, none⟩), .iface ty pv] w (PushT n0 b v0 v1 (.iface ty pv) vs w) := by
  obtain ⟨i0, hi0, hz0, hz1, hz2⟩ := info_parts infoTm
  obtain ⟨A, k, c, rfl⟩ := own_form ho
  obtain ⟨n, hnn⟩ : ∃ n, vs.length = n := ⟨_, rfl⟩
  have HN := Lib.hid hnn
  rw [hnn] at ho hl
  have hkn : k = n := by
    rcases ho.2 with ⟨hv, hn⟩ | ⟨g, cap, cur, hv, _⟩
    · cases hv; exact hn.symm
    · cases hv; rfl
  subst hkn
  have H := Lib.hid h
  have HB : Hid ((Value.slice A k c).ownBlock ≠ some b) := Lib.hid (own_not ho h (by decide))
  have c0 := h.c0
  have f0 := h.f 0
  have own1 := ho.alloc (.cells #[.iface ty pv] 40)
  have HO := Lib.hid ho
  have HLT := Lib.hid h.lt
  clear h ho hnn
  go_enter Tryd.func44, Tryd.ntmps44
  go_wp2_with (at_builtin; refine wpList_append_own_at _ rfl _ _ 76 rfl n0 40 i0 .nilIface 1 16 Tryd.underlying76 hi0 hz0 hz1 hz2 rfl (by decide) _ _ _ rfl own1 ⟨w.heap.size, 0, none⟩ 1 1 [.iface ty pv] rfl rfl ?a1 ?a2 ?a3 ?a4 ?a5 ?_)
  case a1 => exact cell_one_new _ _ _
  case a2 => simp [Value.oneCell']
  case a3 => simp only [maxLen]; omega
  case a4 => omega
  case a5 => simp; omega
  intro u w8 hown8 hg8 _ hb8
  obtain ⟨A8, k8, c8, rfl⟩ := own_form hown8
  have HC8 : CR w8 b (.slice A k c) v1 := (H.out.alloc _).grown hg8 (fun e => HB.out e.symm)
  have d0 := HC8.c0
  have g0 := HC8.f 0
  have HX := Lib.hid HC8
  have HO8 := Lib.hid hown8
  have HG8 := Lib.hid hg8
  have HB8 := Lib.hid hb8
  clear HC8 hown8 hg8 hb8 own1 c0 f0
  go_wp2_with fail
  go_end0
  have hc1 : Chg (fun j => j = b ∨ (Value.slice A k c).ownBlock = some j) w w8 := (Chg.grown (World.grownBy_alloc w _ none)).trans (Chg.row HG8.out (fun j hj => .inr hj)) (fun _ _ h => h) (fun _ _ h => h)
  have hc2 := hc1.trans (Chg.row (wr := fun j => j = b ∨ (Value.slice A k c).ownBlock = some j) (gr_set w8 b 0 (.slice A8 k8 c8)) (fun j hj => .inl (by simpa using hj.symm))) (fun _ _ h => h) (fun _ _ h => h)
  have hne : ∀ g, (Value.slice A8 k8 c8).ownBlock = some g → g ≠ b := fun g hg e => own_not HO8.out HX.out (by decide) (e ▸ hg)
  refine ⟨rfl, _, HX.out.set0 _, ?_, hc2, fun g hg => ?_⟩
  · rw [List.length_append, HN.out]
    exact own_keep HO8.out (fun g hg => Below.heap_setCell _ _ _ _ (hne g hg))
  · rcases HB8.out with e | e
    · exact .inl (e ▸ hg)
    · rw [e] at hg
      cases hg
      exact .inr (by simp)

end Go.Proofs.YtdfanconjiiceaaDoor
