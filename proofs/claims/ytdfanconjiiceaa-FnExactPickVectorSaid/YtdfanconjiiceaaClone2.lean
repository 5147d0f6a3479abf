/- What slices.Clone of the program does with a list of lists: a row of its own with the same slices. -/
import Derived.Test.YtdfanconjiiceaaClone
namespace Go.Proofs.Ytdfanconjiiceaa
open Go.RowKit

set_option maxRecDepth 100000 in
set_option maxHeartbeats 400000 in
theorem clone2_nil (w : World) : Calls Try.prog 90 #[.slice none 0 0] w fun e w' => e = .returned (.slice none 0 0) ∧ w' = w := by
  have heq := fun w => Lib.run_eql_slice_nil (P := Try.prog) w 22 23 none 0 0 0 0 Try.underlying22
  go_enter Try.func90, Try.ntmps90
  go_wp2_with fail
  go_ret
  exact ⟨rfl, rfl⟩

set_option maxRecDepth 100000 in
set_option maxHeartbeats 400000 in
theorem clone2_some (b off c : Nat) (vs : List Value) (w : World) (h : ∀ (j : Nat) (v : Value), vs[j]? = some v → w.cell? ⟨b, off + j, none⟩ = some v) (hone : ∀ v ∈ vs, v.oneCell' = true) (hl : vs.length ≤ 1048576) :
    Calls Try.prog 90 #[.slice (some ⟨b, off, none⟩) vs.length c] w fun e w' => ∃ A c', e = .returned (.slice A vs.length c') ∧ w.grownBy w' none ∧ w'.ownsRow w.heap.size 23 1 (.slice A vs.length c') vs.length vs := by
  obtain ⟨i0, hi0, hz0, hz1, hz2⟩ := info_parts infoL
  have H := Lib.hid h
  have HO1 := Lib.hid hone
  obtain ⟨q, hq⟩ : ∃ q, vs.length = q := ⟨_, rfl⟩
  have HQ := Lib.hid hq
  rw [hq] at hl ⊢
  clear h hq hone
  have own1 : (w.alloc (.cells #[] 23)).ownsRow w.heap.size 23 1 (.slice (some ⟨w.heap.size, 0, none⟩) 0 0) 0 [] := World.ownsRow_made (base := w.heap.size) (e := 23) (size := 1) w #[] 0 (Nat.le_refl _) (by simp) (by simp)
  have heq := fun w => Lib.run_eql_slice_nil (P := Try.prog) w 22 23 (some ⟨b, off, none⟩) q c 0 0 Try.underlying22
  go_enter Try.func90, Try.ntmps90
  go_wp2_with (at_builtin; refine wpList_append_own_at _ rfl _ _ 22 rfl w.heap.size 23 i0 (.slice none 0 0) 1 24 Try.underlying22 hi0 hz0 hz1 hz2 rfl (by decide) _ _ _ rfl own1 ⟨b, off, none⟩ q c vs rfl ?c1 ?c0 ?c2 ?c3 ?c4 ?c5 ?_)
  case c1 => simp; exact HQ.out
  case c0 =>
    intro j u hu
    have hc := H.out j u hu
    rw [addr_flat]
    exact (World.grownBy_alloc w (.cells #[] 23) none).cell hc (by simp)
  case c2 => exact HO1.out
  case c3 => simp only [maxLen]; omega
  case c4 => omega
  case c5 => simp
  intro v8 w8 hown8 hg8 _ _
  obtain ⟨A8, m8, c8, rfl⟩ := own_form hown8
  have hm8 := own_len2 hown8
  subst hm8
  have HO8 := Lib.hid hown8
  have HG8 := Lib.hid (gr_ownF (World.grownBy_alloc w (.cells #[] 23) none) hg8 (fun k hk => by cases hk; exact Nat.le_refl _))
  clear hown8 hg8 own1
  go_wp2_with fail
  go_ret
  exact ⟨A8, c8, rfl, HG8.out, HO8.out⟩

end Go.Proofs.Ytdfanconjiiceaa
