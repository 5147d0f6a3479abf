/- What permutationOf of the program does. -/
import Derived.Test.YtpakihjkjdanlaaArrP
import Derived.Laws.CopyOwn
namespace Go.Proofs.Ytpakihjkjdanlaa
open Go.RowKit

theorem res_cell1 {fn : Func} {p : Tmp} {ty : TypeId} (h : fn.results = #[.cell p ty]) (tmps : Array Value) (P : Program) (w : World) :
    (results fn tmps).run P w = ((asAddr (tmps.getD p undef)).run P w).andThen fun a w₁ => (loadVar ty a).run P w₁ := by
  simp only [results, h]
  simp [Sem.run_bind, Result.andThen]

/-- A list, then -1 up to a place, then 0. -/
def midL (zs : List Int) (j : Nat) : List Int := zs ++ (List.replicate (j - zs.length) (-1) ++ List.replicate (400 - j) 0)
theorem midL_len {zs : List Int} {j : Nat} (h1 : zs.length ≤ j) (h2 : j ≤ 400) : (midL zs j).length = 400 := by simp [midL]; omega
theorem midL_at {zs : List Int} {j : Nat} (h1 : zs.length ≤ j) (h2 : j < 400) : (midL zs j)[j]? = some 0 := by
  rw [midL, List.getElem?_append_right h1, List.getElem?_append_right (by simp), List.length_replicate, Nat.sub_self, List.getElem?_replicate, if_pos (by omega)]
theorem midL_set {zs : List Int} {j : Nat} (h1 : zs.length ≤ j) (h2 : j < 400) : (midL zs j).set j (-1) = midL zs (j + 1) := by
  rw [midL, List.set_append_right _ _ h1, List.set_append_right _ _ (by simp), List.length_replicate, Nat.sub_self, show 400 - j = (400 - (j + 1)) + 1 from by omega, List.replicate_succ, List.set_cons_zero, midL, show j + 1 - zs.length = (j - zs.length) + 1 from by omega, List.replicate_succ' (n := j - zs.length)]
  simp
theorem midL_pad {zs : List Int} : midL zs 400 = padL zs := by rw [midL, padL, Nat.sub_self, List.replicate_zero, List.append_nil]
theorem splice_mid {zs : List Int} : (splice (List.replicate 400 (Value.int .i64 0)) 0 (zs.map (Value.int .i64))).toArray = pvc (midL zs zs.length) := by
  rw [splice, List.take_zero, List.nil_append, Nat.zero_add, List.length_map, List.drop_replicate, pvc, midL, Nat.sub_self, List.replicate_zero, List.nil_append, List.map_append, List.map_replicate]

set_option maxRecDepth 100000 in
set_option maxHeartbeats 2000000 in
theorem perm_any (A : Option Addr) (c : Nat) (zs : List Int) (w : World) (hA : Ints w A zs) (hn : zs.length ≤ 400) :
    Calls Try.prog 59 #[.slice A zs.length c] w fun e w' => e = .returned (.agg (pvc (padL zs))) ∧ w.grownBy w' none := by
  have HA := Lib.hid hA
  have hz : ∀ w, (zeroValue 59).run Try.prog w = .ok (.agg (Array.replicate 400 (.int .i64 0))) w := zeroP.1
  obtain ⟨n, hnn⟩ : ∃ n, zs.length = n := ⟨_, rfl⟩
  have HN := Lib.hid hnn
  rw [hnn] at hn ⊢
  clear hA hnn
  go_enter Try.func59, Try.ntmps59
  obtain ⟨W1, hW1⟩ : ∃ W1, (w.alloc (.cells (Array.replicate 400 (.int .i64 0)) 59)).alloc (.cells (Array.replicate 400 (.int .i64 0)) 59) = W1 := ⟨_, rfl⟩
  have hg1 : w.grownBy W1 none := by rw [← hW1]; exact (World.grownBy_alloc _ _ _).trans (World.grownBy_alloc _ _ _)
  have hg0 : ArrAt W1 w.heap.size (List.replicate 400 0) := by
    rw [← hW1, ← pvc_zero]
    exact (ArrAt.new w (by simp)).grown (World.grownBy_alloc _ _ none) (by simp)
  have hb1 : W1.heap[w.heap.size + 1]? = some (.cells (List.replicate 400 (Value.int .i64 0)).toArray 59 (0, 0)) := by
    have := heap_alloc_last (w.alloc (.cells (Array.replicate 400 (.int .i64 0)) 59)) (.cells (Array.replicate 400 (.int .i64 0)) 59)
    rw [hW1, World.size_alloc] at this
    rw [this, List.toArray_replicate]
  have hs1 : W1.heap.size = w.heap.size + 2 := by rw [← hW1]; simp
  obtain ⟨Z, hZ⟩ : ∃ Z, List.replicate 400 (Value.int .i64 0) = Z := ⟨_, rfl⟩
  obtain ⟨Z0, hZ0⟩ : ∃ Z0 : List Int, List.replicate 400 0 = Z0 := ⟨_, rfl⟩
  have HZ := Lib.hid hZ
  have HZL : Hid (Z.length = 400) := Lib.hid (by rw [← hZ, List.length_replicate])
  have HZ0 : Hid (Z0.length = 400) := Lib.hid (by rw [← hZ0, List.length_replicate])
  rw [hZ] at hb1
  rw [hZ0] at hg0
  clear hZ hZ0
  have HW := Lib.hid hW1
  have HS1 := Lib.hid hs1
  have HG1 := Lib.hid hg1
  have HG0 := Lib.hid hg0
  have HB1 := Lib.hid hb1
  have HPO : Hid (0 < (zs.map (Value.int .i64)).length → some (⟨w.heap.size + 1, 0, none⟩ : Addr) = some ⟨w.heap.size + 1, 0, none⟩ ∧ ∃ ad, A = some ad ∧ ∀ j v, (zs.map (Value.int .i64))[j]? = some v → W1.cell? (ad.add j) = some v) := Lib.hid (fun hpos => ⟨rfl, by
    obtain ⟨b, off, rfl, hlt, hc⟩ := HA.out.grown hg1 (by simp) (by simpa using hpos)
    refine ⟨_, rfl, fun j v hj => ?_⟩
    rw [List.getElem?_map] at hj
    obtain ⟨z, hz, rfl⟩ := Option.map_eq_some_iff.1 hj
    have hadd : (⟨b, off, none⟩ : Addr).add j = ⟨b, off + j, none⟩ := by unfold Addr.add; split <;> simp_all
    rw [hadd]
    exact hc j z hz⟩)
  clear hW1 hg1 hg0 hb1 hs1
  go_wp2_with (rw [HW.out]; refine wpList_copy_splice rfl (.tmp 5) (.tmp 6) 22 22 rfl 3 Try.underlying22 (by kernel_rfl) _ _ _ _ _ _ rfl rfl (w.heap.size + 1) 0 Z 59 HB1.out (zs.map (Value.int .i64)) ?c1 HPO.out ?c2 ?c3 (w.heap.size + 1) W1 (Below.refl _ _) (Nat.le_refl _) ?_)
  case c1 => first | exact HN.out | (rw [List.length_map, HN.out]; exact (Nat.min_eq_left hn).symm)
  case c2 => first | (rw [HN.out]; exact hn) | (rw [List.length_map, HZL.out, HN.out]; omega) | (rw [HZL.out, HN.out]; exact hn)
  case c3 => first | (intro v hv; obtain ⟨z, _, rfl⟩ := List.mem_map.1 hv; rfl) | (intro _ _; rfl)
  intro w2 hh hb
  rw [← HZ.out, splice_mid, HN.out] at hh
  have HA2 : Hid (ArrAt w2 (w.heap.size + 1) (midL zs n)) := Lib.hid ⟨hh.out, midL_len (by rw [HN.out]; exact Nat.le_refl _) hn⟩
  have HA0 : Hid (ArrAt w2 w.heap.size Z0) := Lib.hid ⟨(hb.block _ (by omega)).trans HG0.out.1, HZ0.out⟩
  have HG2 : Hid (w.grownBy w2 none) := Lib.hid ⟨hb.os.trans HG1.out.os, hb.tape.trans HG1.out.tape, hb.output.trans HG1.out.output, Nat.le_trans HG1.out.size hb.size, fun k hk _ => (hb.block k (by omega)).trans (HG1.out.block k hk (by simp))⟩
  clear hh hb HPO HB1 HG0 HG1 HW hz
  obtain ⟨g, hgg⟩ : ∃ g, w.heap.size = g := ⟨_, rfl⟩
  have HGG := Lib.hid hgg
  rw [hgg] at HA2 HA0
  simp only [hgg]
  go_wp2_with fail
  go_loopw [4] (fun i wr => ∃ (j : Nat), n ≤ j ∧ j ≤ 400 ∧ i = .int .i64 j ∧ Hid (ArrAt wr (g + 1) (midL zs j)) ∧ Hid (ArrAt wr g Z0) ∧ Hid (w.grownBy wr none)) (fun i _ => 400 - (intOf i).toNat)
  case atStart => exact ⟨n, Nat.le_refl _, hn, by simp [HN.out], HA2, HA0, HG2⟩
  case round =>
    obtain ⟨j, hnj, hj, rfl, ha, h0, hgr⟩ := hrel
    by_cases hlt : j < 400
    · have hcell := ha.out.cell (midL_at (by rw [HN.out]; exact hnj) hlt)
      have hfr := ha.out.frozen j
      have hset := ha.out.set j (-1)
      rw [midL_set (by rw [HN.out]; exact hnj) hlt] at hset
      have HST := Lib.hid hset
      clear hset
      go_wp2_with fail
      go_roundw
      case rel => exact ⟨j + 1, by omega, by omega, by go_num, Lib.hid HST.out.1, Lib.hid (h0.out.grown HST.out.2 (by simp)), Lib.hid (gr_own hgr.out HST.out.2 (fun k e => by have := HGG.out; cases e; omega))⟩
      case measure => simp [intOf]; omega
    · obtain rfl : j = 400 := by omega
      rw [midL_pad] at ha
      have hlp : (padL zs).length = 400 := ha.out.2
      have HPA := Lib.hid (h0.out.putAll hlp)
      go_wp2_with (first | (refine wp_load rfl (some 14) rfl (.tmp 3) rfl (g + 1) rfl (padL zs) ha.out ?_) | (refine wp_store rfl (.tmp 2) (.tmp 14) rfl g rfl Z0 (padL zs) rfl h0.out hlp ?_))
      refine bodyPost_ret (v := .agg (pvc (padL zs))) ?_ rfl ⟨rfl, gr_own hgr.out HPA.out.2 (fun k e => by have := HGG.out; cases e; omega)⟩
      rw [res_cell1 rfl]
      simp [asAddr, Result.andThen, Act.put]
      exact load_arr HPA.out.1

end Go.Proofs.Ytpakihjkjdanlaa
