/- What texts of the program does: the numbers' texts, in a new row. -/
import Derived.Test.YtdfanconjiiceabDoorGrB
import Derived.Test.YtdfanconjiiceabDoorShelfB
import Derived.Lib.AppendIntMem
import Derived.Test.YtdfanconjiiceabDoorLytArg
namespace Go.Proofs.YtdfanconjiiceabDoor
open Go.RowKit

/-- A number's text. -/
def nstr (z : Int) : ByteArray := ⟨(Lib.itoa z).toArray⟩

theorem infoStr : (Tryd.prog.info? 9).map (fun i => (i.zero, i.size, i.bytes)) = some (some (.string ⟨#[]⟩), 1, 16) := by kernel_rfl

set_option maxRecDepth 100000 in
set_option maxHeartbeats 400000 in
theorem texts_any (A : Option Addr) (c : Nat) (zs : List Int) (w : World) (h : Ints w A zs) (hwf : Wf zs) (hn : zs.length ≤ 1048576) (htab : Lib.TabIs Tryd.prog w "internal/strconv.uint64pow10" .u64 Lib.pow10Tab) :
    Calls Tryd.prog 82 #[.agg #[.slice A zs.length c]] w fun e w' => ∃ g, e = .returned (.slice (some ⟨g, 0, none⟩) zs.length zs.length) ∧ w.grownBy w' none ∧
      w'.ownsRow w.heap.size 9 1 (.slice (some ⟨g, 0, none⟩) zs.length zs.length) zs.length (zs.map (fun z => Value.string (nstr z))) := by
  obtain ⟨i0, hi0, hz0, hz1, hz2⟩ := info_parts infoStr
  have HS := Lib.hid h
  have HWF := Lib.hid hwf
  have HT := Lib.hid (Lib.tabBelow_of_tabIs htab)
  obtain ⟨n, hnn⟩ : ∃ n, zs.length = n := ⟨_, rfl⟩
  have HN := Lib.hid hnn
  rw [hnn] at hn ⊢
  clear h hnn hwf htab
  have hmk : ∀ u : World, (Instr.makeSlice 36 (.int .i64 (n : Int)) (.int .i64 (n : Int))).run Tryd.prog u =
      .ok (.slice (some ⟨u.heap.size, 0, none⟩) n n) (u.alloc (.cells (madeCells #[.string ⟨#[]⟩] n) 9)) := fun u => by
    have h := run_make (P := Tryd.prog) u 36 9 i0 (.string ⟨#[]⟩) Tryd.underlying36 hi0 hz0 .i64 .i64 (n : Int) (n : Int) (by omega) (Int.le_refl _) (by rw [hz2]; omega) (by omega)
    simpa [hz1, Value.cells] using h
  go_enter Tryd.func82, Tryd.ntmps82
  go_wp2_with fail
  clear hmk hi0 hz0 hz1 hz2
  have hs1 : (w.alloc (.cells #[.slice A n c] 73)).heap.size = w.heap.size + 1 := by simp
  have ho1 := World.ownsRow_lit (base := w.heap.size) (e := 9) (size := 1) (w.alloc (.cells #[.slice A n c] 73)) (madeCells #[.string ⟨#[]⟩] n) n (by omega) (by simp only [maxLen]; omega) (by simp [madeCells])
  have hg1 : w.grownBy ((w.alloc (.cells #[.slice A n c] 73)).alloc (.cells (madeCells #[.string ⟨#[]⟩] n) 9)) none := (World.grownBy_alloc _ _ _).trans (World.grownBy_alloc _ _ _)
  rw [hs1] at ho1
  have HO := Lib.hid ho1
  have HG := Lib.hid hg1
  generalize (w.alloc (.cells #[.slice A n c] 73)).alloc (.cells (madeCells #[.string ⟨#[]⟩] n) 9) = u0 at HO HG ⊢
  clear ho1 hg1 hs1
  go_loopw [13] (fun i wr => ∃ (j : Nat) (ys : List Value), j ≤ n ∧ i = .int .i64 j ∧ Hid (wr.ownsRow w.heap.size 9 1 (.slice (some ⟨w.heap.size + 1, 0, none⟩) n n) n ys) ∧ Hid (∀ i, i < j → ys[i]? = (zs.map (fun z => Value.string (nstr z)))[i]?) ∧ Hid (w.grownBy wr none)) (fun i _ => n - (intOf i).toNat)
  case atStart => exact ⟨0, _, Nat.zero_le _, rfl, HO, Lib.hid (fun i hi => by omega), HG⟩
  case round =>
    obtain ⟨j, ys, hj, rfl, ho, hys, hgr⟩ := hrel
    by_cases hlt : j < n
    · obtain ⟨z, hz⟩ : ∃ z, zs[j]? = some z := ⟨_, List.getElem?_eq_getElem (by have := HN.out; omega)⟩
      obtain ⟨b, off, rfl, hb, hc⟩ := (HS.out.grown hgr.out (by simp)) (by have := HN.out; omega)
      have hcell := hc j z hz
      have hzw := HWF.out z (List.mem_of_getElem? hz)
      have HAI := Lib.hid (Tryd.strconv_Itoa z hzw.1 hzw.2 wr (HT.out wr (below_of hgr.out)))
      have HZ := Lib.hid hz
      clear hc hz hb
      go_wp2_with fail
      refine HAI.out.mono ?_
      rintro e w1 ⟨rfl, k1, os1, hw1⟩
      have hgk : wr.grownBy w1 none := by
        rw [hw1]
        exact gr_belowB (Lib.below_grow wr.heap.size wr (Nat.le_refl _) k1 os1) (Nat.le_refl _)
      clear hw1
      have ho1 := ho.out.kept hgk (.inr (by simp [Value.ownBlock]))
      have hyl : ys.length = n := by have := ho1.1; omega
      have hcell2 : w1.cell? ⟨w.heap.size + 1, j, none⟩ = some ys[j] := (ho1.cellAt j (by omega)).trans (List.getElem?_eq_getElem (by omega))
      have hfr := ho1.frozenAt j
      generalize ys[j] = y0 at hcell2
      have HYL := Lib.hid hyl
      have HST := Lib.hid (ho1.stored j (.string ⟨(Lib.itoa z).toArray⟩))
      have HG1 := Lib.hid (hgr.out.trans hgk)
      clear ho1 hyl hgk
      go_wp2_with fail
      go_roundw
      case rel =>
        refine ⟨j + 1, ys.set j (.string ⟨(Lib.itoa z).toArray⟩), by omega, by go_num, Lib.hid HST.out.1, Lib.hid (fun i hi => ?_), Lib.hid (gr_ownF HG1.out HST.out.2 (fun k hk => by cases hk; omega))⟩
        rw [List.getElem?_set]
        by_cases e : j = i
        · subst e
          rw [if_pos rfl, if_pos (by have := HYL.out; omega), List.getElem?_map, HZ.out]
          rfl
        · rw [if_neg e]
          exact hys.out i (by omega)
      case measure => simp [intOf]; omega
    · have hjn : j = n := by omega
      have HJ := Lib.hid hjn
      clear hjn
      go_wp2_with fail
      go_ret
      refine ⟨_, rfl, hgr.out, ?_⟩
      have e : ys = zs.map (fun z => Value.string (nstr z)) := by
        refine List.ext_getElem? fun i => ?_
        have hyl : ys.length = n := by have := ho.out.1; omega
        have := HN.out
        rcases Nat.lt_or_ge i n with h | h
        · exact hys.out i (by rw [HJ.out]; exact h)
        · rw [List.getElem?_eq_none (by omega), List.getElem?_eq_none (by rw [List.length_map]; omega)]
      rw [← e]
      exact ho.out

end Go.Proofs.YtdfanconjiiceabDoor
