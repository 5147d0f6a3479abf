/- What inverse (of permutations) of the program does. -/
import Derived.Test.YtpakihjkjdanlaaPermI
namespace Go.Proofs.Ytpakihjkjdanlaa
open Go.RowKit

theorem index_arr {P : List Int} {j : Nat} {x : Int} (hP : P.length = 400) (h : P[j]? = some x) (u : World) : (Instr.index 59 (.agg (pvc P)) (.int .i64 (j : Int))).run Try.prog u = .ok (.int .i64 x) u := by
  have h1 : (sizeOf 3).run Try.prog u = .ok 1 u := by kernel_rfl
  have h2 : (isAgg 3).run Try.prog u = .ok false u := by kernel_rfl
  have hj : (j : Int) < 400 := by have := (List.getElem?_eq_some_iff.1 h).1; omega
  have h3 : (pvc P)[j]? = some (.int .i64 x) := by simp [pvc, h]
  have hu : (underlying 59).run Try.prog u = .ok (.array 400 3) u := by kernel_rfl
  simp [Instr.index, asIntOf, hu, part, h1, h2, h3, Result.andThen]
  intro hne
  omega

set_option maxRecDepth 100000 in
set_option maxHeartbeats 2000000 in
theorem inverse_any (P : List Int) (hP : Ok400 P) (w : World) :
    Calls Try.prog 60 #[.agg (pvc P)] w fun e w' => e = .returned (.agg (pvc (invL P))) ∧ w.grownBy w' none := by
  have hz : ∀ w, (zeroValue 59).run Try.prog w = .ok (.agg (Array.replicate 400 (.int .i64 0))) w := zeroP.1
  have HP := Lib.hid hP
  obtain ⟨C, hC⟩ : ∃ C, pvc P = C := ⟨_, rfl⟩
  have HC := Lib.hid hC
  rw [hC]
  clear hP hC
  go_enter Try.func60, Try.ntmps60
  go_wp2_with fail
  obtain ⟨g, hgg⟩ : ∃ g, w.heap.size = g := ⟨_, rfl⟩
  obtain ⟨Z0, hZ0⟩ : ∃ Z0 : List Int, List.replicate 400 0 = Z0 := ⟨_, rfl⟩
  have HZL : Hid (Z0.length = 400) := Lib.hid (by rw [← hZ0, List.length_replicate])
  obtain ⟨zz, hzz⟩ : ∃ zz, Array.replicate 400 (Value.int .i64 0) = zz := ⟨_, rfl⟩
  have HZZ : Hid (zz = pvc Z0) := Lib.hid (by rw [← hzz, ← hZ0, pvc_zero])
  rw [hzz] at hz
  obtain ⟨W1, hW1⟩ : ∃ W1, (w.alloc (.cells C 59)).alloc (.cells zz 59) = W1 := ⟨_, rfl⟩
  have hg1 : w.grownBy W1 none := by rw [← hW1]; exact (World.grownBy_alloc _ _ _).trans (World.grownBy_alloc _ _ _)
  have hs1 : W1.heap.size = g + 2 := by rw [← hW1]; simp [hgg]
  have ha0 : ArrAt W1 g P := by
    rw [← hW1, ← HC.out, ← hgg]
    exact (ArrAt.new w HP.out.1).grown (World.grownBy_alloc _ _ none) (by simp)
  have ha1 : ArrAt W1 (g + 1) Z0 := by
    rw [← hW1, HZZ.out, ← hgg]
    have := ArrAt.new (w.alloc (.cells C 59)) HZL.out
    rw [World.size_alloc] at this
    exact this
  have HS := Lib.hid (And.intro hgg hs1)
  have HG1 := Lib.hid hg1
  have HA0 := Lib.hid ha0
  have HA1 := Lib.hid ha1
  simp only [hgg, hzz, hW1]
  clear hZ0 hW1 hg1 hs1 ha0 ha1 hgg hzz
  refine (perm_any none 0 [] W1 (fun h => by simp at h) (by simp)).mono ?_
  rintro e w2 ⟨rfl, hg2⟩
  have HA0 := Lib.hid (HA0.out.grown hg2 (by simp))
  have HA1 := Lib.hid (HA1.out.grown hg2 (by simp))
  have HG2 := Lib.hid (HG1.out.trans hg2)
  have HS2 := Lib.hid (show g + 2 ≤ w2.heap.size by have := HS.out.2; have := hg2.size; omega)
  obtain ⟨Q0, hQ0⟩ : ∃ Q0, padL [] = Q0 := ⟨_, rfl⟩
  have HQ0 : Hid (Q0 = invTo P 0 ∧ Q0.length = 400) := Lib.hid (by rw [← hQ0]; exact ⟨rfl, by rw [padL, List.nil_append, List.length_nil, List.length_replicate]⟩)
  rw [hQ0]
  clear hQ0 hg2 HG1
  obtain ⟨g3, hg3⟩ : ∃ g3, w2.heap.size = g3 := ⟨_, rfl⟩
  obtain ⟨W3, hW3⟩ : ∃ W3, w2.alloc (.cells zz 59) = W3 := ⟨_, rfl⟩
  have ha3 : ArrAt W3 g3 Z0 := by rw [← hW3, ← hg3, HZZ.out]; exact ArrAt.new w2 HZL.out
  have hg23 : w2.grownBy W3 none := by rw [← hW3]; exact World.grownBy_alloc _ _ _
  have HA3 := Lib.hid ha3
  have HP3 := Lib.hid (ha3.putAll HQ0.out.2)
  have HS3 := Lib.hid (show g + 2 ≤ g3 by have := HS2.out; omega)
  have HA0 := Lib.hid ((HA0.out.grown hg23 (by simp)).grown HP3.out.2 (by have := HS3.out; simp; omega))
  have HA1 := Lib.hid ((HA1.out.grown hg23 (by simp)).grown HP3.out.2 (by have := HS3.out; simp; omega))
  have HG3 := Lib.hid (gr_own (HG2.out.trans hg23) HP3.out.2 (fun k e => by have := HS3.out; have := HS.out.1; cases e; omega))
  have HW3 := Lib.hid hW3
  have HGG3 := Lib.hid hg3
  clear hW3 ha3 hg23 hg3
  go_wp2_with (first | (rw [HW3.out, HGG3.out]; refine wp_store rfl (.tmp 3) (.tmp 6) rfl g3 rfl Z0 Q0 rfl HA3.out HQ0.out.2 ?_) | (refine wp_load rfl (some 7) rfl (.tmp 1) rfl g rfl P HA0.out ?_))
  generalize W3.setRow g3 (pvc Q0) = w3 at HP3 HA0 HA1 HG3 ⊢
  have HP0 : Hid (ArrAt w3 g3 (invTo P 0)) := Lib.hid (by rw [← HQ0.out.1]; exact HP3.out.1)
  clear HP3 HA3 HW3 HGG3 hz HZZ
  obtain ⟨CC, hCC⟩ : ∃ CC, pvc P = CC := ⟨_, rfl⟩
  have HCC := Lib.hid hCC
  obtain ⟨QQ, hQQ⟩ : ∃ QQ, pvc Q0 = QQ := ⟨_, rfl⟩
  simp only [hCC, hQQ]
  clear hCC hQQ
  go_wp2_with fail
  go_loopw [8] (fun i wr => ∃ (j : Nat), j ≤ 400 ∧ i = .int .i64 j ∧ Hid (ArrAt wr g3 (invTo P j)) ∧ Hid (ArrAt wr (g + 1) Z0) ∧ Hid (w.grownBy wr none)) (fun i _ => 400 - (intOf i).toNat)
  case atStart => exact ⟨0, by omega, rfl, HP0, HA1, HG3⟩
  case round =>
    obtain ⟨j, hj, rfl, ha, h1, hgr⟩ := hrel
    by_cases hlt : j < 400
    · obtain ⟨x, hx⟩ : ∃ x, P[j]? = some x := ⟨_, List.getElem?_eq_getElem (by have := HP.out.1; omega)⟩
      have hix := fun u => index_arr HP.out.1 hx u
      rw [HCC.out] at hix
      have hxr := HP.out.2 j x hx
      have HXD := Lib.hid (getD_some (d := -1) hx)
      clear hx
      by_cases hxn : x = -1
      · have HST : Hid (invTo P (j + 1) = invTo P j) := Lib.hid (by rw [invTo, HXD.out, if_pos hxn])
        subst hxn
        clear hxr HXD
        go_wp2_with fail
        go_roundw
        case rel => exact ⟨j + 1, by omega, by go_num, by rw [HST.out]; exact ha, h1, hgr⟩
        case measure => simp [intOf]; omega
      · obtain ⟨k, rfl⟩ : ∃ k : Nat, x = (k : Int) := ⟨x.toNat, by omega⟩
        have hk : k < 400 := by omega
        obtain ⟨y, hy⟩ : ∃ y, (invTo P j)[k]? = some y := ⟨_, List.getElem?_eq_getElem (by have := invTo_len P j; omega)⟩
        have hcell := ha.out.cell hy
        have hfr := ha.out.frozen k
        have hset := ha.out.set k (j : Int)
        have HST : Hid (invTo P (j + 1) = (invTo P j).set k (j : Int)) := Lib.hid (by rw [invTo, HXD.out, if_neg hxn, Int.toNat_natCast])
        have HS4 := Lib.hid hset
        have hkn : ((k : Int) == -1) = false := by rw [beq_eq_false_iff_ne]; omega
        have hkn2 : ((k : Int) != -1) = true := by rw [bne, hkn]; rfl
        clear hy hset hxr HXD
        go_wp2_with fail
        go_roundw
        case rel => exact ⟨j + 1, by omega, by go_num, by rw [HST.out]; exact Lib.hid HS4.out.1, Lib.hid (h1.out.grown HS4.out.2 (by have := HS3.out; simp; omega)), Lib.hid (gr_own hgr.out HS4.out.2 (fun k e => by have := HS.out.1; have := HS3.out; cases e; omega))⟩
        case measure => simp [intOf]; omega
    · obtain rfl : j = 400 := by omega
      have hlp : (invL P).length = 400 := invTo_len P 400
      have HPA := Lib.hid (h1.out.putAll hlp)
      have HA4 : Hid (ArrAt wr g3 (invL P)) := ha
      go_wp2_with (first | (refine wp_load rfl (some 18) rfl (.tmp 3) rfl g3 rfl (invL P) HA4.out ?_) | (refine wp_store rfl (.tmp 2) (.tmp 18) rfl (g + 1) rfl Z0 (invL P) rfl h1.out hlp ?_))
      refine bodyPost_ret (v := .agg (pvc (invL P))) ?_ rfl ⟨rfl, gr_own hgr.out HPA.out.2 (fun k e => by have := HS.out.1; cases e; omega)⟩
      rw [res_cell1 rfl]
      simp [asAddr, Result.andThen, Act.put]
      exact load_arr HPA.out.1

end Go.Proofs.Ytpakihjkjdanlaa
