/- What InvertIndices and ScatterData of the program do. -/
import Derived.Test.YtpakihjkjdanlaaIsPerm
import Derived.Test.YtpakihjkjdanlaaInvS
import Derived.Maps.AppendAt
import Derived.Lib.SliceRun
namespace Go.Proofs.Ytpakihjkjdanlaa
open Go.RowKit

theorem cut_arr400 (q n : Nat) (hn : n ≤ 400) (u : World) : (Instr.sliceAt 59 (.pointer (some ⟨q, 0, none⟩)) none (some (.int .i64 (n : Int))) none).run Try.prog u = .ok (.slice (some ⟨q, 0, none⟩) n 400) u := by
  have hu : (underlying 59).run Try.prog u = .ok (.array 400 3) u := by kernel_rfl
  simp [Instr.sliceAt, hu, Instr.sureAddr, Instr.sliceBounds, Instr.sliceBound, asIntOf, Result.andThen]
  rw [if_pos hn]
  rfl

theorem own_len4 {w : World} {base e m n : Nat} {A : Option Addr} {c : Nat} {xs : List Value} (h : w.ownsRow base e 1 (.slice A m c) n xs) : m = n := by
  rcases h.2 with ⟨hv, hn⟩ | ⟨g, cap, cur, hv, _⟩
  · cases hv; omega
  · cases hv; rfl

set_option maxRecDepth 100000 in
set_option maxHeartbeats 2000000 in
theorem cloneI_any (b c n : Nat) (L : List Int) (w : World) (hcl : ∀ (j : Nat) (z : Int), L[j]? = some z → w.cell? ⟨b, j, none⟩ = some (.int .i64 z)) (hlt : b < w.heap.size) (hL : L.length = n) (hn : n ≤ 1048576) :
    Calls Try.prog 61 #[.slice (some ⟨b, 0, none⟩) n c] w (ListPost L w) := by
  obtain ⟨i0, hi0, hz0', hz1', hz2'⟩ := info_parts infoJ
  have HC : Hid (∀ (i : Nat) (u : Value), (L.map (Value.int .i64))[i]? = some u → (w.alloc (.cells #[] 3)).cell? ((⟨b, 0, none⟩ : Addr).add i) = some u) := Lib.hid (fun i u hu => by
    rw [List.getElem?_map] at hu
    obtain ⟨z, hz, rfl⟩ := Option.map_eq_some_iff.1 hu
    have hadd : (⟨b, 0, none⟩ : Addr).add i = ⟨b, i, none⟩ := by unfold Addr.add; split <;> simp_all
    rw [hadd, World.cell?_alloc_lt _ _ _ (by exact hlt)]
    exact hcl i z hz)
  have heq := fun w => Lib.run_eql_slice_nil (P := Try.prog) w 22 3 (some ⟨b, 0, none⟩) n c 0 0 Try.underlying22
  have HL := Lib.hid hL
  have HM := Lib.hid (made_row w w.heap.size (Nat.le_refl _))
  clear hcl hL
  go_enter Try.func61, Try.ntmps61
  go_wp2_with (at_builtin; go_loud (refine wpList_append_own_at _ rfl _ _ 22 rfl w.heap.size 3 i0 (.int .i64 0) 1 8 Try.underlying22 hi0 hz0' hz1' hz2' rfl (by decide) _ _ _ rfl HM.out ⟨b, 0, none⟩ n c (L.map (Value.int .i64)) rfl (by rw [List.length_map, HL.out]; simp) HC.out ?c2 ?c3 ?c4 ?c5 ?_))
  case c2 => intro v hv; obtain ⟨z, _, rfl⟩ := List.mem_map.1 hv; rfl
  case c3 => simp only [maxLen]; omega
  case c4 => omega
  case c5 => (try simp only [World.size_alloc]); omega
  intro v8 w8 hown8 hg8 _ _
  obtain ⟨A6, m, c6, rfl⟩ := own_form hown8
  have hm := own_len4 hown8
  have HG := Lib.hid (gr_own (World.grownBy_alloc w (.cells #[] 3) none) hg8 (fun k hk => by cases hk; exact Nat.le_refl _))
  have HO := Lib.hid hown8
  clear hown8 hg8
  go_wp2_with fail
  go_ret
  have e : L.length = m := by rw [HL.out]; omega
  refine ⟨A6, c6, by rw [e]; rfl, HG.out, ?_⟩
  rw [e]
  rw [← hm] at HO
  exact HO.out

set_option maxRecDepth 100000 in
set_option maxHeartbeats 4000000 in
theorem invert_yes (A : Option Addr) (c : Nat) (zs : List Int) (w : World) (hA : Ints w A zs) (hn : zs.length ≤ 1048576) (hp : permB zs = true) :
    Calls Try.prog 25 #[.slice A zs.length c] w (ListPostB (invI zs) true w) := by
  obtain ⟨hid, _⟩ := permB_get hp
  obtain ⟨h4, _, _⟩ := idxB_get hid
  have HI := Lib.hid (isperm_any A c zs w hA hn)
  rw [hp] at HI
  have HA := Lib.hid hA
  have HF := Lib.hid (fun u (hg : w.grownBy u none) => perm_any A c zs u (HA.out.grown hg (by simp)) h4)
  have HP := Lib.hid (pad_okB hid)
  have HV := Lib.hid (fun w => inverse_any (padL zs) HP.out w)
  obtain ⟨P, hPP⟩ : ∃ P, padL zs = P := ⟨_, rfl⟩
  have HPP := Lib.hid hPP
  rw [hPP] at HP HF HV
  have HQ := Lib.hid (invL_ok HP.out)
  have HIE : Hid (invI zs = (invL P).take zs.length) := Lib.hid (by rw [invI, hPP])
  obtain ⟨Q, hQQ⟩ : ∃ Q, invL P = Q := ⟨_, rfl⟩
  rw [hQQ] at HV HQ HIE
  have hz : ∀ w, (zeroValue 59).run Try.prog w = .ok (.agg (Array.replicate 400 (.int .i64 0))) w := zeroP.1
  obtain ⟨Z0, hZ0⟩ : ∃ Z0 : List Int, List.replicate 400 0 = Z0 := ⟨_, rfl⟩
  have HZL : Hid (Z0.length = 400) := Lib.hid (by rw [← hZ0, List.length_replicate])
  obtain ⟨zz, hzz⟩ : ∃ zz, Array.replicate 400 (Value.int .i64 0) = zz := ⟨_, rfl⟩
  have HZZ : Hid (zz = pvc Z0) := Lib.hid (by rw [← hzz, ← hZ0, pvc_zero])
  rw [hzz] at hz
  obtain ⟨n, hnn⟩ : ∃ n, zs.length = n := ⟨_, rfl⟩
  have HIL : Hid ((invI zs).length = n) := Lib.hid (by rw [invI_len h4, hnn])
  rw [hnn] at HI HF HIE h4 ⊢
  obtain ⟨R, hR⟩ : ∃ R, invI zs = R := ⟨_, rfl⟩
  rw [hR] at HIE HIL ⊢
  clear hA hn hp hid hPP hQQ hZ0 hzz hnn hR HA HPP
  go_enter Try.func25, Try.ntmps25
  go_wp2_with fail
  refine HI.out.mono ?_
  rintro e w1 ⟨rfl, hg1⟩
  have HG1 := Lib.hid hg1
  clear hg1
  go_wp2_with fail
  refine (HF.out _ HG1.out).mono ?_
  rintro e w2 ⟨rfl, hg2⟩
  have HG2 := Lib.hid (HG1.out.trans hg2)
  clear hg2
  go_wp2_with fail
  refine (HV.out _).mono ?_
  rintro e w3 ⟨rfl, hg3⟩
  have HG3 := Lib.hid (HG2.out.trans hg3)
  clear hg3
  obtain ⟨q, hqq⟩ : ∃ q, w3.heap.size = q := ⟨_, rfl⟩
  obtain ⟨W4, hW4⟩ : ∃ W4, w3.alloc (.cells zz 59) = W4 := ⟨_, rfl⟩
  have ha4 : ArrAt W4 q Z0 := by rw [← hW4, ← hqq, HZZ.out]; exact ArrAt.new w3 HZL.out
  have hg4 : w3.grownBy W4 none := by rw [← hW4]; exact World.grownBy_alloc _ _ _
  have HA4 := Lib.hid ha4
  have HW4 := Lib.hid (And.intro hW4 hqq)
  have HP4 := Lib.hid (ha4.putAll HQ.out.1)
  have HB4 := Lib.hid (show w.heap.size ≤ q by rw [← hqq]; exact HG3.out.size)
  have HG4 := Lib.hid (gr_own (HG3.out.trans hg4) HP4.out.2 (fun k e => by have := HB4.out; cases e; omega))
  have hcut := fun u => cut_arr400 q n h4 u
  clear hW4 hqq ha4 hg4 HG3
  go_wp2_with (rw [HW4.out.1, HW4.out.2]; refine wp_store rfl (.tmp 4) (.tmp 10) rfl q rfl Z0 Q rfl HA4.out HQ.out.1 ?_)
  have hq : ArrAt (W4.setRow q (pvc Q)) q Q := HP4.out.1
  have hG : w.grownBy (W4.setRow q (pvc Q)) none := HG4.out
  generalize W4.setRow q (pvc Q) = w5 at hq hG ⊢
  have HCL := Lib.hid (cloneI_any q 400 n R w5 (fun j z hj => by
    rw [HIE.out, List.getElem?_take] at hj
    split at hj
    · exact hq.cell hj
    · cases hj) hq.lt HIL.out (by omega))
  have HG5 := Lib.hid hG
  have HBS := Lib.hid hG.size
  clear hq hG HA4 HW4 HP4 HG4 HZZ HZL hz
  refine HCL.out.mono ?_
  rintro e w6 ⟨A6, c6, rfl, hg6, ho6⟩
  have HG6 := Lib.hid (HG5.out.trans hg6)
  have HO6 := Lib.hid (own_base ho6 HBS.out)
  clear hg6 ho6
  go_wp2_with fail
  go_ret2
  exact ⟨A6, c6, rfl, HG6.out, HO6.out⟩

set_option maxHeartbeats 1000000 in
theorem invert_any (A : Option Addr) (c : Nat) (zs : List Int) (w : World) (hA : Ints w A zs) (hn : zs.length ≤ 1048576) :
    Calls Try.prog 25 #[.slice A zs.length c] w (ListPostB (invR zs) (permB zs) w) := by
  cases hp : permB zs with
  | true =>
    have hr : invR zs = invI zs := by simp [invR, hp]
    rw [hr]
    exact invert_yes A c zs w hA hn hp
  | false =>
    have hr : invR zs = [] := by simp [invR, hp]
    have HI := Lib.hid (isperm_any A c zs w hA hn)
    obtain ⟨n, hnn⟩ : ∃ n, zs.length = n := ⟨_, rfl⟩
    rw [hp, hnn] at HI
    rw [hr, hnn]
    clear hA hn hp hr hnn
    go_enter Try.func25, Try.ntmps25
    go_wp2_with fail
    refine HI.out.mono ?_
    rintro e w1 ⟨rfl, hg1⟩
    have HG1 := Lib.hid hg1
    clear hg1
    go_wp2_with fail
    go_ret2
    exact postB_no _ _ HG1.out

set_option maxHeartbeats 2000000 in
theorem scatter_any (A B : Option Addr) (c d : Nat) (D zs : List Int) (w : World) (hA : Ints w A D) (hB : Ints w B zs) (hm : D.length ≤ 1048576) (hn : zs.length ≤ 1048576) :
    Calls Try.prog 27 #[.slice A D.length c, .slice B zs.length d] w (ListPostB (scatR D zs) (scatB D zs) w) := by
  have HI := Lib.hid (invert_any B d zs w hB hn)
  have HD := Lib.hid (fun u (hg : w.grownBy u none) => isdata1_any A c D u (hA.grown hg (by simp)) hm)
  have HA := Lib.hid hA
  obtain ⟨n, hnn⟩ : ∃ n, zs.length = n := ⟨_, rfl⟩
  obtain ⟨m, hmm⟩ : ∃ m, D.length = m := ⟨_, rfl⟩
  have HN := Lib.hid hnn
  have HM := Lib.hid hmm
  rw [hnn] at HI ⊢
  rw [hmm] at HD ⊢
  obtain ⟨I, hI⟩ : ∃ I, invR zs = I := ⟨_, rfl⟩
  rw [hI] at HI
  cases hp : permB zs with
  | false =>
    have hr : scatR D zs = [] := by simp [scatR, scatB, hp]
    have hb : scatB D zs = false := by simp [scatB, hp]
    rw [hp] at HI
    rw [hr, hb]
    clear hA hB hm hn hnn hmm hI hp hr hb HD
    go_enter Try.func27, Try.ntmps27
    go_wp2_with fail
    refine HI.out.mono ?_
    rintro e w1 ⟨A1, c1, rfl, hg1, _⟩
    have HG1 := Lib.hid hg1
    clear hg1
    go_wp2_with fail
    go_ret2
    exact postB_no _ _ HG1.out
  | true =>
    have hI2 : I = invI zs := by rw [← hI, invR, hp]; rfl
    rw [hp] at HI
    cases hd : dataB D with
    | false =>
      have hr : scatR D zs = [] := by simp [scatR, scatB, hd]
      have hb : scatB D zs = false := by simp [scatB, hd]
      rw [hd] at HD
      rw [hr, hb]
      clear hA hB hm hn hnn hmm hI hp hr hb hI2
      go_enter Try.func27, Try.ntmps27
      go_wp2_with fail
      refine HI.out.mono ?_
      rintro e w1 ⟨A1, c1, rfl, hg1, _⟩
      have HG1 := Lib.hid hg1
      clear hg1
      go_wp2_with fail
      refine (HD.out _ HG1.out).mono ?_
      rintro e w2 ⟨rfl, rfl⟩
      go_wp2_with fail
      go_ret2
      exact postB_no _ _ HG1.out
    | true =>
      rw [hd] at HD
      by_cases hl : m = n
      · subst hl
        have hs : scatB D zs = true := by simp [scatB, hp, hd]; omega
        have hr : scatR D zs = pickI D (invI zs) := by simp [scatR, hs]
        have HIP := Lib.hid (invI_perm hp)
        rw [hr, hs, ← hI2]
        have HE := Lib.hid hI2
        have hnb : ((m : Int) != (m : Int)) = false := by simp
        clear hA hB hm hn hnn hmm hI hp hr hs hd hI2
        go_enter Try.func27, Try.ntmps27
        go_wp2_with fail
        refine HI.out.mono ?_
        rintro e w1 ⟨A1, c1, rfl, hg1, ho1⟩
        have HG1 := Lib.hid hg1
        have HBS := Lib.hid hg1.size
        have HF := Lib.hid (gather_any A A1 c c1 D I w1 (HA.out.grown hg1 (by simp)) (Ints.of_own ho1) (by have := HM.out; have := HIP.out.2; have := HN.out; have := (idxB_get HIP.out.1).1; omega) (by rw [HE.out]; have := (idxB_get HIP.out.1).1; omega) (by
          intro x hx
          rw [HE.out] at hx
          have h1 := (idxB_get HIP.out.1).2.2 x hx
          have h2 := HN.out
          have h3 := HM.out
          omega))
        rw [HM.out] at HF
        clear hg1 ho1
        go_wp2_with fail
        refine (HD.out _ HG1.out).mono ?_
        rintro e w2 ⟨rfl, rfl⟩
        go_wp2_with fail
        refine HF.out.mono ?_
        rintro e w3 ⟨A3, c3, rfl, hg3, ho3⟩
        have HG3 := Lib.hid (HG1.out.trans hg3)
        have HO3 := Lib.hid (own_base ho3 HBS.out)
        clear hg3 ho3
        go_wp2_with fail
        go_ret2
        exact ⟨A3, c3, rfl, HG3.out, HO3.out⟩
      · have hs : scatB D zs = false := by simp [scatB]; intro _ _; omega
        have hr : scatR D zs = [] := by simp [scatR, hs]
        rw [hr, hs]
        have hnb : ((m : Int) != (n : Int)) = true := by
          have : ((m : Int) == (n : Int)) = false := by rw [beq_eq_false_iff_ne]; omega
          rw [bne, this]; rfl
        clear hA hB hm hn hnn hmm hI hp hr hs hd hI2
        go_enter Try.func27, Try.ntmps27
        go_wp2_with fail
        refine HI.out.mono ?_
        rintro e w1 ⟨A1, c1, rfl, hg1, _⟩
        have HG1 := Lib.hid hg1
        clear hg1
        go_wp2_with fail
        refine (HD.out _ HG1.out).mono ?_
        rintro e w2 ⟨rfl, rfl⟩
        go_wp2_with fail
        go_ret2
        exact postB_no _ _ HG1.out

theorem invR_short {zs : List Int} (hn : zs.length ≤ 1048576) : (invR zs).length ≤ 1048576 := by
  unfold invR
  split
  · rename_i h
    rw [invI_len (idxB_get (permB_get h).1).1]; exact hn
  · simp
theorem scatR_short {D zs : List Int} (hn : zs.length ≤ 1048576) : (scatR D zs).length ≤ 1048576 := by
  unfold scatR
  split
  · rename_i h
    rw [pickI_len, invI_len (idxB_get (permB_get (scatB_get h).1).1).1]; exact hn
  · simp

/-- Both at once: the same numbers. -/
theorem both_invert (L : List Int) (hn : L.length ≤ 1048576) : ∃ (zs : List Int) (b : Bool), zs.length ≤ 1048576 ∧
    (∀ v w, OwnI w v L → Calls Try.prog 24 #[v] w fun e w' => ∃ A c, e = .returned (.tuple #[.slice A zs.length c, .bool b]) ∧ w.grownBy w' none ∧ Ints w' A zs) ∧
    (∀ v w, OwnI w v L → Calls Try.prog 25 #[v] w fun e w' => ∃ A c, e = .returned (.tuple #[.slice A zs.length c, .bool b]) ∧ w.grownBy w' none ∧
      w'.ownsRow w.heap.size 3 1 (.slice A zs.length c) zs.length (zs.map (Value.int .i64))) := by
  refine ⟨invR L, permB L, invR_short hn, fun v w h1 => ?_, fun v w h1 => ?_⟩
  · obtain ⟨A, c, rfl, hA, _, _, _⟩ := h1.form
    refine (sinvert_any A c L w hA hn).mono ?_
    rintro e w' ⟨A, c, rfl, hg, ho⟩
    exact ⟨A, c, rfl, hg, Ints.of_own ho⟩
  · obtain ⟨A, c, rfl, hA, _, _, _⟩ := h1.form
    refine (invert_any A c L w hA hn).mono ?_
    rintro e w' ⟨A, c, rfl, hg, ho⟩
    exact ⟨A, c, rfl, hg, ho⟩
theorem both_scatter (L D : List Int) (hn : L.length ≤ 1048576) (hm : D.length ≤ 1048576) : ∃ (zs : List Int) (b : Bool), zs.length ≤ 1048576 ∧
    (∀ v u w, OwnI w v L → OwnI w u D → Calls Try.prog 26 #[v, u] w fun e w' => ∃ A c, e = .returned (.tuple #[.slice A zs.length c, .bool b]) ∧ w.grownBy w' none ∧ Ints w' A zs) ∧
    (∀ v u w, OwnI w v L → OwnI w u D → Calls Try.prog 27 #[v, u] w fun e w' => ∃ A c, e = .returned (.tuple #[.slice A zs.length c, .bool b]) ∧ w.grownBy w' none ∧
      w'.ownsRow w.heap.size 3 1 (.slice A zs.length c) zs.length (zs.map (Value.int .i64))) := by
  refine ⟨scatR L D, scatB L D, scatR_short hm, fun v u w h1 h2 => ?_, fun v u w h1 h2 => ?_⟩
  · obtain ⟨A, c, rfl, hA, _, _, _⟩ := h1.form
    obtain ⟨B, d, rfl, hB, _, _, _⟩ := h2.form
    refine (sscatter_any A B c d L D w hA hB hn hm).mono ?_
    rintro e w' ⟨A, c, rfl, hg, ho⟩
    exact ⟨A, c, rfl, hg, Ints.of_own ho⟩
  · obtain ⟨A, c, rfl, hA, _, _, _⟩ := h1.form
    obtain ⟨B, d, rfl, hB, _, _, _⟩ := h2.form
    refine (scatter_any A B c d L D w hA hB hn hm).mono ?_
    rintro e w' ⟨A, c, rfl, hg, ho⟩
    exact ⟨A, c, rfl, hg, ho⟩

end Go.Proofs.Ytpakihjkjdanlaa
