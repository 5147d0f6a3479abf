/- What the model's InvertIndices and ScatterData do. -/
import Derived.Test.YtpakihjkjdanlaaPermS
namespace Go.Proofs.Ytpakihjkjdanlaa
open Go.RowKit

def iotaL (n : Nat) : List Int := (List.range n).map fun (k : Nat) => (k : Int)
theorem iota_at {n k : Nat} (h : k < n) : (iotaL n).getD k 0 = (k : Int) := getD_some (by simp [iotaL, h])
theorem putTo_step {n : Nat} {A D : List Int} {j z : Nat} {x : Int} (h1 : A[j]? = some (z : Int)) (h2 : D.getD j 0 = x) : putTo n A D (j + 1) = (putTo n A D j).set z x := by
  rw [putTo, getD_some h1, h2, Int.toNat_natCast]
theorem made_put (n : Nat) (A D : List Int) : (madeCells #[.int .i64 0] n).toList = (putTo n A D 0).map (Value.int .i64) := by
  rw [toList_madeCells_one, putTo, List.map_replicate]

set_option maxRecDepth 100000 in
set_option maxHeartbeats 4000000 in
theorem sinvert_any (A : Option Addr) (c : Nat) (zs : List Int) (w : World) (hA : Ints w A zs) (hn : zs.length ≤ 1048576) :
    Calls Try.prog 24 #[.slice A zs.length c] w (ListPostB (invR zs) (permB zs) w) := by
  have HI := Lib.hid (sisperm_any A c zs w hA hn)
  have HA := Lib.hid hA
  obtain ⟨n, hnn⟩ : ∃ n, zs.length = n := ⟨_, rfl⟩
  have HN := Lib.hid hnn
  cases hi : permB zs with
  | false =>
    have hr : invR zs = [] := by simp [invR, hi]
    rw [hi, hnn] at HI
    rw [hr, hnn]
    clear hA hn hi hnn hr
    go_enter Try.func24, Try.ntmps24
    go_wp2_with fail
    refine HI.out.mono ?_
    rintro e w1 ⟨rfl, hg⟩
    have HG := Lib.hid hg
    clear hg
    go_wp2_with fail
    go_ret2
    exact ⟨_, 0, rfl, HG.out.trans (World.grownBy_alloc _ _ _), own_base (made_row w1 w1.heap.size (Nat.le_refl _)) HG.out.size⟩
  | true =>
    have hr : invR zs = invI zs := by simp [invR, hi]
    have HPM := Lib.hid hi
    have HME := Lib.hid (idxB_get (permB_get hi).1).2.2
    rw [hi, hnn] at HI
    rw [hnn] at hn
    have hmk := make_run n hn
    have HO := Lib.hid (fun w => made_own w n hn)
    rw [hr, hnn]
    clear hA hi hnn hr
    go_enter Try.func24, Try.ntmps24
    go_wp2_with fail
    refine HI.out.mono ?_
    rintro e w1 ⟨rfl, hg⟩
    have HG := Lib.hid hg
    have HB := Lib.hid hg.size
    clear hg
    go_wp2_with fail
    go_loopw [16] (fun i wr => ∃ (j : Nat), j ≤ n ∧ i = .int .i64 j ∧ Hid (wr.ownsRow w1.heap.size 3 1 (.slice (some ⟨w1.heap.size, 0, none⟩) n n) n ((putTo n zs (iotaL n) j).map (Value.int .i64))) ∧ Hid (w.grownBy wr none)) (fun i _ => n - (intOf i).toNat)
    case atStart => exact ⟨0, Nat.zero_le _, rfl, Lib.hid (by rw [← made_put]; exact HO.out w1), Lib.hid (HG.out.trans (World.grownBy_alloc _ _ _))⟩
    case round =>
      obtain ⟨j, hj, rfl, hown, hgr⟩ := hrel
      by_cases hlt : j < n
      · obtain ⟨z0, hz⟩ : ∃ z, zs[j]? = some z := ⟨_, List.getElem?_eq_getElem (by have := HN.out; omega)⟩
        obtain ⟨b, off, rfl, _, hc⟩ := HA.out.grown hgr.out (by simp) (by have := HN.out; omega)
        have hcell := hc j z0 hz
        obtain ⟨hz0, hz1⟩ := HME.out z0 (List.mem_of_getElem? hz)
        obtain ⟨z, rfl⟩ : ∃ z : Nat, z0 = (z : Int) := ⟨z0.toNat, by omega⟩
        have hzn : z < n := by have := HN.out; omega
        obtain ⟨y, hy⟩ : ∃ y, ((putTo n zs (iotaL n) j).map (Value.int .i64))[z]? = some y := ⟨_, List.getElem?_eq_getElem (by rw [List.length_map, putTo_len]; exact hzn)⟩
        have hcell3 : wr.cell? ⟨w1.heap.size, z, none⟩ = some y := by have := (hown.out.cellAt z (by omega)).trans hy; simpa using this
        have hfr : wr.frozen? ⟨w1.heap.size, z, none⟩ = false := by have := hown.out.frozenAt z; simpa using this
        have HST := Lib.hid (hown.out.stored z (.int .i64 (j : Int)))
        have HPS := Lib.hid (putTo_step (n := n) hz (iota_at hlt))
        clear hz hc hz0 hz1 hy
        go_wp2_with fail
        go_roundw
        case rel => exact ⟨j + 1, by omega, by go_num, Lib.hid (by rw [HPS.out, List.map_set]; exact HST.out.1), Lib.hid (gr_own hgr.out HST.out.2 (fun k e => by have := HB.out; cases e; omega))⟩
        case measure => simp [intOf]; omega
      · have hjn : j = n := by omega
        have HJ := Lib.hid hjn
        clear hjn
        go_wp2_with fail
        go_ret2
        have h4 := hown.out
        have e1 := inv_put HPM.out
        rw [HN.out] at e1
        rw [HJ.out, show putTo n zs (iotaL n) n = invI zs from e1] at h4
        have e2 : (invI zs).length = n := by rw [invI_len (idxB_get (permB_get HPM.out).1).1, HN.out]
        exact ⟨_, n, by rw [e2]; rfl, hgr.out, by rw [e2]; exact own_base h4 HB.out⟩

set_option maxRecDepth 100000 in
set_option maxHeartbeats 4000000 in
theorem sscatter_yes (A B : Option Addr) (c d : Nat) (D zs : List Int) (w : World) (hA : Ints w A D) (hB : Ints w B zs) (hn : zs.length ≤ 1048576) (hs : scatB D zs = true) :
    Calls Try.prog 26 #[.slice A D.length c, .slice B zs.length d] w (ListPostB (pickI D (invI zs)) true w) := by
  obtain ⟨hp, hdd, hdl⟩ := scatB_get hs
  have HD := Lib.hid (sdata_any A c D w hA (by omega))
  have HI := Lib.hid (sisperm_any B d zs w hB hn)
  have HA := Lib.hid hA
  have HB := Lib.hid hB
  obtain ⟨n, hnn⟩ : ∃ n, zs.length = n := ⟨_, rfl⟩
  have HN := Lib.hid hnn
  have HPM := Lib.hid hp
  have HME := Lib.hid (idxB_get (permB_get hp).1).2.2
  have HDL := Lib.hid (hdl.trans hnn)
  rw [hdd, hdl, hnn] at HD
  rw [hp, hnn] at HI
  rw [hnn] at hn
  have hmk := make_run n hn
  have HO := Lib.hid (fun w => made_own w n hn)
  rw [hdl, hnn]
  clear hA hB hnn hp hdd hdl hs
  have hnb : ((n : Int) != (n : Int)) = false := by simp
  go_enter Try.func26, Try.ntmps26
  go_wp2_with fail
  refine HD.out.mono ?_
  rintro e w1 ⟨rfl, rfl⟩
  go_wp2_with fail
  refine HI.out.mono ?_
  rintro e w1 ⟨rfl, hg⟩
  have HG := Lib.hid hg
  have HBS := Lib.hid hg.size
  clear hg
  go_wp2_with fail
  go_loopw [30] (fun i wr => ∃ (j : Nat), j ≤ n ∧ i = .int .i64 j ∧ Hid (wr.ownsRow w1.heap.size 3 1 (.slice (some ⟨w1.heap.size, 0, none⟩) n n) n ((putTo n zs D j).map (Value.int .i64))) ∧ Hid (w.grownBy wr none)) (fun i _ => n - (intOf i).toNat)
  case atStart => exact ⟨0, Nat.zero_le _, rfl, Lib.hid (by rw [← made_put]; exact HO.out w1), Lib.hid (HG.out.trans (World.grownBy_alloc _ _ _))⟩
  case round =>
    obtain ⟨j, hj, rfl, hown, hgr⟩ := hrel
    by_cases hlt : j < n
    · obtain ⟨z0, hz⟩ : ∃ z, zs[j]? = some z := ⟨_, List.getElem?_eq_getElem (by have := HN.out; omega)⟩
      obtain ⟨b, off, rfl, _, hc⟩ := HB.out.grown hgr.out (by simp) (by have := HN.out; omega)
      have hcell := hc j z0 hz
      obtain ⟨hz0, hz1⟩ := HME.out z0 (List.mem_of_getElem? hz)
      obtain ⟨z, rfl⟩ : ∃ z : Nat, z0 = (z : Int) := ⟨z0.toNat, by omega⟩
      have hzn : z < n := by have := HN.out; omega
      obtain ⟨x, hx⟩ : ∃ x, D[j]? = some x := ⟨_, List.getElem?_eq_getElem (by have := HDL.out; omega)⟩
      obtain ⟨b2, off2, rfl, _, hc2⟩ := HA.out.grown hgr.out (by simp) (by have := HDL.out; omega)
      have hcell2 := hc2 j x hx
      obtain ⟨y, hy⟩ : ∃ y, ((putTo n zs D j).map (Value.int .i64))[z]? = some y := ⟨_, List.getElem?_eq_getElem (by rw [List.length_map, putTo_len]; exact hzn)⟩
      have hcell3 : wr.cell? ⟨w1.heap.size, z, none⟩ = some y := by have := (hown.out.cellAt z (by omega)).trans hy; simpa using this
      have hfr : wr.frozen? ⟨w1.heap.size, z, none⟩ = false := by have := hown.out.frozenAt z; simpa using this
      have HST := Lib.hid (hown.out.stored z (.int .i64 x))
      have HPS := Lib.hid (putTo_step (n := n) hz (getD_some (d := 0) hx))
      clear hz hc hz0 hz1 hy hx hc2
      go_wp2_with fail
      go_roundw
      case rel => exact ⟨j + 1, by omega, by go_num, Lib.hid (by rw [HPS.out, List.map_set]; exact HST.out.1), Lib.hid (gr_own hgr.out HST.out.2 (fun k e => by have := HBS.out; cases e; omega))⟩
      case measure => simp [intOf]; omega
    · have hjn : j = n := by omega
      have HJ := Lib.hid hjn
      clear hjn
      go_wp2_with fail
      go_ret2
      have h4 := hown.out
      have e1 := scat_put (D := D) HPM.out
      rw [HN.out] at e1
      rw [HJ.out, e1] at h4
      have e2 : (pickI D (invI zs)).length = n := by rw [pickI_len, invI_len (idxB_get (permB_get HPM.out).1).1, HN.out]
      exact ⟨_, n, by rw [e2]; rfl, hgr.out, by rw [e2]; exact own_base h4 HBS.out⟩

set_option maxHeartbeats 2000000 in
theorem sscatter_any (A B : Option Addr) (c d : Nat) (D zs : List Int) (w : World) (hA : Ints w A D) (hB : Ints w B zs) (hm : D.length ≤ 1048576) (hn : zs.length ≤ 1048576) :
    Calls Try.prog 26 #[.slice A D.length c, .slice B zs.length d] w (ListPostB (scatR D zs) (scatB D zs) w) := by
  cases hs : scatB D zs with
  | true =>
    have hr : scatR D zs = pickI D (invI zs) := by simp [scatR, hs]
    rw [hr]
    exact sscatter_yes A B c d D zs w hA hB hn hs
  | false =>
    have hr : scatR D zs = [] := by simp [scatR, hs]
    rw [hr]
    have HD := Lib.hid (sdata_any A c D w hA hm)
    have HI := Lib.hid (sisperm_any B d zs w hB hn)
    obtain ⟨n, hnn⟩ : ∃ n, zs.length = n := ⟨_, rfl⟩
    obtain ⟨m, hmm⟩ : ∃ m, D.length = m := ⟨_, rfl⟩
    rw [hnn] at HI ⊢
    rw [hmm] at HD ⊢
    cases hd : dataB D with
    | false =>
      rw [hd] at HD
      clear hA hB hm hn hs hr hnn hmm hd HI
      go_enter Try.func26, Try.ntmps26
      go_wp2_with fail
      refine HD.out.mono ?_
      rintro e w1 ⟨rfl, rfl⟩
      go_wp2_with fail
      go_ret2
      exact ⟨_, 0, rfl, World.grownBy_alloc _ _ _, made_row w w.heap.size (Nat.le_refl _)⟩
    | true =>
      rw [hd] at HD
      by_cases hl : n = m
      · have hp : permB zs = false := by
          cases hp : permB zs with
          | false => rfl
          | true =>
            rw [scatB, hp, hd, Bool.true_and, Bool.true_and, decide_eq_false_iff_not] at hs
            exact absurd (by omega) hs
        rw [hp] at HI
        subst hl
        have hnb : ((n : Int) != (n : Int)) = false := by simp
        clear hA hB hm hn hs hr hnn hmm hd hp
        go_enter Try.func26, Try.ntmps26
        go_wp2_with fail
        refine HD.out.mono ?_
        rintro e w1 ⟨rfl, rfl⟩
        go_wp2_with fail
        refine HI.out.mono ?_
        rintro e w1 ⟨rfl, hg⟩
        have HG := Lib.hid hg
        clear hg
        go_wp2_with fail
        go_ret2
        exact ⟨_, 0, rfl, HG.out.trans (World.grownBy_alloc _ _ _), own_base (made_row w1 w1.heap.size (Nat.le_refl _)) HG.out.size⟩
      · have hnb : ((n : Int) != (m : Int)) = true := by
          have : ((n : Int) == (m : Int)) = false := by rw [beq_eq_false_iff_ne]; omega
          rw [bne, this]; rfl
        clear hA hB hm hn hs hr hnn hmm hd HI
        go_enter Try.func26, Try.ntmps26
        go_wp2_with fail
        refine HD.out.mono ?_
        rintro e w1 ⟨rfl, rfl⟩
        go_wp2_with fail
        go_ret2
        exact ⟨_, 0, rfl, World.grownBy_alloc _ _ _, made_row w w.heap.size (Nat.le_refl _)⟩

end Go.Proofs.Ytpakihjkjdanlaa
