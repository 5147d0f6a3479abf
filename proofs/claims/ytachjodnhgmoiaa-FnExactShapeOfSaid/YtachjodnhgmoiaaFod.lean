/- What flatOfDepth of the program does: empty levels, as many as the depth, which arrays can be laid into. -/
import Derived.Test.YtachjodnhgmoiaaFam
import Derived.Lib.SliceRun
namespace Go.Proofs.Ytachjodnhgmoiaa
open Go.RowKit

set_option maxHeartbeats 400000 in
theorem fod_any (d : Nat) (w : World) (hd : d ≤ 10) :
    Calls Try.prog 19 #[.int .i64 (d : Int)] w fun e w' => ∃ g, e = .returned (.agg #[.slice none 0 0, .slice (some ⟨g, 0, none⟩) d d]) ∧ w.grownBy w' none ∧ g < w'.heap.size ∧ w'.ownsRow w.heap.size 22 1 (.slice (some ⟨g, 0, none⟩) d d) d (List.replicate d (.slice none 0 0)) := by
  obtain ⟨i0, hi0, hz0, hz1, hz2⟩ := info_parts infoL
  have hmk : ∀ u : World, (Instr.makeSlice 28 (.int .i64 (d : Int)) (.int .i64 (d : Int))).run Try.prog u =
      .ok (.slice (some ⟨u.heap.size, 0, none⟩) d d) (u.alloc (.cells (madeCells #[.slice none 0 0] d) 22)) := fun u => by
    have h := run_make (P := Try.prog) u 28 22 i0 (.slice none 0 0) Try.underlying28 hi0 hz0 .i64 .i64 (d : Int) (d : Int) (by omega) (Int.le_refl _) (by rw [hz2]; omega) (by omega)
    simpa [hz1, Value.cells] using h
  have hcs : (madeCells #[.slice none 0 0] d).toList = List.replicate d (.slice none 0 0) := by
    refine List.eq_replicate_iff.2 ⟨by simp [madeCells], fun b hb => ?_⟩
    simp only [madeCells, Array.toList_map, List.mem_map] at hb
    obtain ⟨i, _, rfl⟩ := hb
    have : i % (#[Value.slice none 0 0] : Array Value).size = 0 := by simp [Nat.mod_one]
    rw [this]
    rfl
  have HCS := Lib.hid hcs
  clear hcs
  go_enter Try.func19, Try.ntmps19
  go_wp2_with fail
  have P := (Pr.new w 44 (.slice none 0 0) (.slice (some ⟨w.heap.size + 1, 0, none⟩) d d)).alloc (.cells (madeCells #[.slice none 0 0] d) 22)
  have r0 := P.c0
  have r1 := P.c1
  refine bodyPost_ret (v := .agg #[.slice none 0 0, .slice (some ⟨w.heap.size + 1, 0, none⟩) d d]) (by simp [results, Try.results19, go_sem, r0, r1]) rfl ?_
  have ho := World.ownsRow_lit (base := w.heap.size) (e := 22) (size := 1) (w.alloc (.cells #[.slice none 0 0, .slice (some ⟨w.heap.size + 1, 0, none⟩) d d] 44)) (madeCells #[.slice none 0 0] d) d (by simp) (by simp only [maxLen]; omega) (by simp [madeCells])
  rw [HCS.out, sz_alloc] at ho
  exact ⟨w.heap.size + 1, rfl, (World.grownBy_alloc _ _ _).trans (World.grownBy_alloc _ _ _), by simp, ho⟩

end Go.Proofs.Ytachjodnhgmoiaa
