/- What toIntS of the laws does. -/
import Derived.Test.YtachjodnhgmoiaaGreatDoorFam
namespace Go.Proofs.YtachjodnhgmoiaaGreatDoor
open Go.RowKit

set_option maxHeartbeats 400000 in
theorem toi_any (A : Option Addr) (c : Nat) (zs : List Int) (w : World) (h : Ints w A zs) (hn : zs.length ≤ 1048576) :
    Calls Tryz.prog 9 #[.slice A zs.length c] w fun e w' => e = .returned (.slice (some ⟨w.heap.size, 0, none⟩) zs.length zs.length) ∧ w.grownBy w' none ∧
      w'.ownsRow w.heap.size 3 1 (.slice (some ⟨w.heap.size, 0, none⟩) zs.length zs.length) zs.length (zs.map (Value.int .i64)) := by
  obtain ⟨i0, hi0, hz0, hz1, hz2⟩ := info_parts infoJ
  have HS := Lib.hid h
  obtain ⟨n, hnn⟩ : ∃ n, zs.length = n := ⟨_, rfl⟩
  have HN := Lib.hid hnn
  rw [hnn] at hn ⊢
  clear h hnn
  have hmk : ∀ u : World, (Instr.makeSlice 25 (.int .i64 (n : Int)) (.int .i64 (n : Int))).run Tryz.prog u =
      .ok (.slice (some ⟨u.heap.size, 0, none⟩) n n) (u.alloc (.cells (madeCells #[.int .i64 0] n) 3)) := fun u => by
    have h := run_make (P := Tryz.prog) u 25 3 i0 (.int .i64 0) Tryz.underlying25 hi0 hz0 .i64 .i64 (n : Int) (n : Int) (by omega) (Int.le_refl _) (by rw [hz2]; omega) (by omega)
    simpa [hz1, Value.cells] using h
  go_enter Tryz.func9, Tryz.ntmps9
  go_wp2_with fail
  clear hmk hi0 hz0 hz1 hz2
  have HO := Lib.hid (World.ownsRow_lit (base := w.heap.size) (e := 3) (size := 1) w (madeCells #[.int .i64 0] n) n (Nat.le_refl _) (by simp only [maxLen]; omega) (by simp [madeCells]))
  go_loopw [4] (fun i wr => ∃ (j : Nat) (ys : List Value), j ≤ n ∧ i = .int .i64 j ∧ Hid (wr.ownsRow w.heap.size 3 1 (.slice (some ⟨w.heap.size, 0, none⟩) n n) n ys) ∧ Hid (∀ i, i < j → ys[i]? = (zs.map (Value.int .i64))[i]?) ∧ Hid (w.grownBy wr none)) (fun i _ => n - (intOf i).toNat)
  case atStart => exact ⟨0, _, Nat.zero_le _, rfl, HO, Lib.hid (fun i hi => by omega), Lib.hid (World.grownBy_alloc _ _ _)⟩
  case round =>
    obtain ⟨j, ys, hj, rfl, ho, hys, hgr⟩ := hrel
    by_cases hlt : j < n
    · obtain ⟨z, hz⟩ : ∃ z, zs[j]? = some z := ⟨_, List.getElem?_eq_getElem (by have := HN.out; omega)⟩
      obtain ⟨b, off, rfl, hb, hc⟩ := (HS.out.grown hgr.out (by simp)) (by have := HN.out; omega)
      have hcell := hc j z hz
      have hyl : ys.length = n := by have := ho.out.1; omega
      have hcell2 : wr.cell? ⟨w.heap.size, j, none⟩ = some ys[j] := (ho.out.cellAt j (by omega)).trans (List.getElem?_eq_getElem (by omega))
      have hfr := ho.out.frozenAt j
      generalize ys[j] = y0 at hcell2
      have HZ := Lib.hid hz
      have HYL := Lib.hid hyl
      have HST := Lib.hid (ho.out.stored j (.int .i64 z))
      clear hc hz hyl hb
      go_wp2_with fail
      go_roundw
      case rel =>
        refine ⟨j + 1, ys.set j (.int .i64 z), by omega, by go_num, Lib.hid HST.out.1, Lib.hid (fun i hi => ?_), Lib.hid (gr_ownF hgr.out HST.out.2 (fun k hk => by cases hk; exact Nat.le_refl _))⟩
        rw [List.getElem?_set]
        by_cases e : j = i
        · subst e
          rw [if_pos rfl, if_pos (by have := HYL.out; omega), List.getElem?_map, HZ.out]
          rfl
        · rw [if_neg e]
          exact hys.out i (by omega)
      case measure => simp [intOf]; omega
    · have hjn : j = n := by omega
      have HJ := Lib.hid hjn
      clear hjn
      go_wp2_with fail
      go_ret
      refine ⟨rfl, hgr.out, ?_⟩
      have e : ys = zs.map (Value.int .i64) := by
        refine List.ext_getElem? fun i => ?_
        have hyl : ys.length = n := by have := ho.out.1; omega
        have := HN.out
        rcases Nat.lt_or_ge i n with h | h
        · exact hys.out i (by rw [HJ.out]; exact h)
        · rw [List.getElem?_eq_none (by omega), List.getElem?_eq_none (by rw [List.length_map]; omega)]
      rw [← e]
      exact ho.out

end Go.Proofs.YtachjodnhgmoiaaGreatDoor
