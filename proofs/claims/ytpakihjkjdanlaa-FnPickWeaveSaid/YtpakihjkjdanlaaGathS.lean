/- What the model's l4Data, l4Indices and GatherData do. -/
import Derived.Test.YtpakihjkjdanlaaSegS2
import Derived.Test.YtpakihjkjdanlaaPerm
namespace Go.Proofs.Ytpakihjkjdanlaa
open Go.RowKit

theorem postB_no (w w' : World) (hg : w.grownBy w' none) : ListPostB [] false w (.returned (.tuple #[.slice none 0 0, .bool false])) w' := ⟨none, 0, rfl, hg, World.ownsRow_nil _ _ _ _⟩

set_option maxHeartbeats 400000 in
theorem sdata_any (A : Option Addr) (c : Nat) (zs : List Int) (w : World) (h : Ints w A zs) (hn : zs.length ≤ 1048576) :
    Calls Try.prog 54 #[.slice A zs.length c] w fun e w' => e = .returned (.bool (dataB zs)) ∧ w = w' := by
  have HU := Lib.hid (snums3_any A c zs w h hn)
  obtain ⟨r, hr⟩ : ∃ r, dataB zs = r := ⟨_, rfl⟩
  have HR := Lib.hid hr
  rw [hr]
  obtain ⟨q, hq⟩ : ∃ q, okN 10006 zs = q := ⟨_, rfl⟩
  have HQ := Lib.hid hq
  rw [hq] at HU
  obtain ⟨n, hnn⟩ : ∃ n, zs.length = n := ⟨_, rfl⟩
  have HN := Lib.hid hnn
  rw [hnn] at hn HU ⊢
  clear h hnn hr hq
  cases q with
  | false =>
    go_enter Try.func54, Try.ntmps54
    go_wp2_with fail
    refine HU.out.mono ?_
    rintro e w1 ⟨rfl, rfl⟩
    go_wp2_with fail
    go_ret
    refine ⟨?_, rfl⟩
    rw [← HR.out, dataB, HQ.out]
    simp
  | true =>
    go_enter Try.func54, Try.ntmps54
    go_wp2_with fail
    refine HU.out.mono ?_
    rintro e w1 ⟨rfl, rfl⟩
    go_wp2_with fail
    go_ret
    refine ⟨?_, rfl⟩
    rw [← HR.out, dataB, HQ.out, HN.out]
    simp
    omega

set_option maxHeartbeats 400000 in
theorem sidx_any (A : Option Addr) (c m : Nat) (zs : List Int) (w : World) (h : Ints w A zs) (hn : zs.length ≤ 1048576) (hm : m ≤ 1048576) :
    Calls Try.prog 55 #[.slice A zs.length c, .int .i64 (m : Int)] w fun e w' => e = .returned (.bool (idxB m zs)) ∧ w = w' := by
  have HS := Lib.hid h
  obtain ⟨n, hnn⟩ : ∃ n, zs.length = n := ⟨_, rfl⟩
  have HN := Lib.hid hnn
  rw [hnn] at hn ⊢
  obtain ⟨r, hr⟩ : ∃ r, idxB m zs = r := ⟨_, rfl⟩
  rw [hr]
  have HR := Lib.hid hr
  clear h hnn hr
  go_enter Try.func55, Try.ntmps55
  go_wp2_with fail
  go_loop [9] (fun i => ∃ (j : Nat), j ≤ n ∧ i = .int .i64 j ∧ Hid (okN ((m : Int) - 1) (zs.take j) = true)) (fun i => n - (intOf i).toNat)
  case atStart => exact ⟨0, Nat.zero_le _, rfl, Lib.hid rfl⟩
  case round =>
    obtain ⟨j, hj, rfl, hok⟩ := hrel
    by_cases hlt : j < n
    · obtain ⟨z, hz⟩ : ∃ z, zs[j]? = some z := ⟨_, List.getElem?_eq_getElem (by have := HN.out; omega)⟩
      obtain ⟨b, off, rfl, _, hc⟩ := HS.out (by have := HN.out; omega)
      have hcell := hc j z hz
      have HZ := Lib.hid hz
      clear hc hz
      obtain ⟨q, hq⟩ : ∃ q, decide (0 ≤ z ∧ z ≤ (m : Int) - 1) = q := ⟨_, rfl⟩
      have HI := Lib.hid (in_any z 0 ((m : Int) - 1) q hq w)
      have HQ := Lib.hid hq
      clear hq
      cases q
      · go_wp2_with fail
        refine HI.out.mono ?_
        rintro e w1 ⟨rfl, rfl⟩
        go_wp2_with fail
        go_ret
        refine ⟨?_, rfl⟩
        rw [← HR.out, idxB, okN_bad (hi := (m : Int) - 1) HZ.out (by have := decide_eq_false_iff_not.1 HQ.out; omega)]
        simp
      · have hz2 := decide_eq_true_iff.1 HQ.out
        obtain ⟨hz0, hz1⟩ := hz2
        go_wp2_with fail
        refine HI.out.mono ?_
        rintro e w1 ⟨rfl, rfl⟩
        go_wp2_with fail
        go_round
        case rel => exact ⟨j + 1, by omega, by go_num, Lib.hid (okN_step HZ.out hok.out hz0 hz1)⟩
        case measure => simp [intOf]; omega
    · have hjn : j = n := by omega
      have HJ := Lib.hid hjn
      clear hjn
      by_cases hn4 : n ≤ 400
      all_goals
        go_wp2_with fail
        go_ret
        refine ⟨?_, rfl⟩
        have e : zs.take j = zs := by rw [HJ.out, ← HN.out, List.take_length]
        have h3 := hok.out
        rw [e] at h3
        rw [← HR.out, idxB, h3, HN.out]
        simp
        omega

set_option maxRecDepth 100000 in
set_option maxHeartbeats 4000000 in
theorem sgather_any (A B : Option Addr) (c d : Nat) (D At : List Int) (w : World) (hA : Ints w A D) (hB : Ints w B At) (hn : D.length ≤ 1048576) (hm : At.length ≤ 1048576) :
    Calls Try.prog 16 #[.slice A D.length c, .slice B At.length d] w (ListPostB (gatherR D At) (gatherB D At) w) := by
  obtain ⟨i0, hi0, hz0', hz1', hz2'⟩ := info_parts infoJ
  have HD := Lib.hid (sdata_any A c D (w.alloc (.cells #[] 3)) (hA.grown (World.grownBy_alloc _ _ none) (by simp)) hn)
  have HI := Lib.hid (sidx_any B d D.length At (w.alloc (.cells #[] 3)) (hB.grown (World.grownBy_alloc _ _ none) (by simp)) hm hn)
  have HA := Lib.hid hA
  have HB := Lib.hid hB
  obtain ⟨n, hnn⟩ : ∃ n, D.length = n := ⟨_, rfl⟩
  have HN := Lib.hid hnn
  obtain ⟨m, hmm⟩ : ∃ m, At.length = m := ⟨_, rfl⟩
  have HM := Lib.hid hmm
  cases h1 : dataB D with
  | false =>
    have hr : gatherR D At = [] := by simp [gatherR, gatherB, h1]
    have hb : gatherB D At = false := by simp [gatherB, h1]
    rw [h1, hnn] at HD
    rw [hr, hb, hnn, hmm]
    clear hA hB hn hm hnn hmm hr hb h1
    go_enter Try.func16, Try.ntmps16
    go_wp2_with fail
    refine HD.out.mono ?_
    rintro e w1 ⟨rfl, rfl⟩
    go_wp2_with fail
    go_ret2
    exact ⟨_, 0, rfl, World.grownBy_alloc _ _ _, made_row w w.heap.size (Nat.le_refl _)⟩
  | true =>
    cases h2 : idxB D.length At with
    | false =>
      have hr : gatherR D At = [] := by simp [gatherR, gatherB, h2]
      have hb : gatherB D At = false := by simp [gatherB, h2]
      rw [h1, hnn] at HD
      rw [h2, hnn, hmm] at HI
      rw [hr, hb, hnn, hmm]
      clear hA hB hn hm hnn hmm hr hb h1 h2
      go_enter Try.func16, Try.ntmps16
      go_wp2_with fail
      refine HD.out.mono ?_
      rintro e w1 ⟨rfl, rfl⟩
      go_wp2_with fail
      refine HI.out.mono ?_
      rintro e w1 ⟨rfl, rfl⟩
      go_wp2_with fail
      go_ret2
      exact ⟨_, 0, rfl, World.grownBy_alloc _ _ _, made_row w w.heap.size (Nat.le_refl _)⟩
    | true =>
      have hr : gatherR D At = pickI D At := by simp [gatherR, gatherB, h1, h2]
      have hb : gatherB D At = true := by simp [gatherB, h1, h2]
      obtain ⟨hm4, _, hmem⟩ := idxB_get h2
      have HME := Lib.hid hmem
      rw [h1, hnn] at HD
      rw [h2, hnn, hmm] at HI
      rw [hmm] at hm4
      rw [hr, hb, hnn, hmm]
      clear hA hB hn hm hnn hmm hr hb h1 h2 hmem
      go_enter Try.func16, Try.ntmps16
      go_wp2_with fail
      refine HD.out.mono ?_
      rintro e w1 ⟨rfl, rfl⟩
      go_wp2_with fail
      refine HI.out.mono ?_
      rintro e w1 ⟨rfl, rfl⟩
      go_wp2_with fail
      go_loopw [6, 23] (fun u i wr => ∃ (j : Nat) (A3 : Option Addr) (c3 : Nat), j ≤ m ∧ i = .int .i64 j ∧ u = .slice A3 j c3 ∧ Hid (wr.ownsRow w.heap.size 3 1 (.slice A3 j c3) j ((pickI D (At.take j)).map (Value.int .i64))) ∧ Hid (w.grownBy wr none)) (fun _ i _ => m - (intOf i).toNat)
      case atStart => exact ⟨0, some ⟨w.heap.size, 0, none⟩, 0, Nat.zero_le _, rfl, rfl, Lib.hid (made_row w w.heap.size (Nat.le_refl _)), Lib.hid (World.grownBy_alloc _ _ _)⟩
      case round =>
        obtain ⟨j, A3, c3, hj, rfl, rfl, hown, hgr⟩ := hrel
        by_cases hlt : j < m
        · obtain ⟨z0, hz⟩ : ∃ z, At[j]? = some z := ⟨_, List.getElem?_eq_getElem (by have := HM.out; omega)⟩
          obtain ⟨b, off, rfl, _, hc⟩ := HB.out.grown hgr.out (by simp) (by have := HM.out; omega)
          have hcell := hc j z0 hz
          obtain ⟨hz0, hz1⟩ := HME.out z0 (List.mem_of_getElem? hz)
          obtain ⟨z, rfl⟩ : ∃ z : Nat, z0 = (z : Int) := ⟨z0.toNat, by omega⟩
          have hzn : z < n := by have := HN.out; omega
          obtain ⟨x, hx⟩ : ∃ x, D[z]? = some x := ⟨_, List.getElem?_eq_getElem (by have := HN.out; omega)⟩
          obtain ⟨b2, off2, rfl, _, hc2⟩ := HA.out.grown hgr.out (by simp) (by have := HN.out; omega)
          have hcell2 := hc2 z x hx
          have HST : Hid (pickI D (At.take (j + 1)) = pickI D (At.take j) ++ [x]) := Lib.hid (by rw [at_take hz, pickI, pickI, List.map_append]; congr 1; simp [hx])
          have hB := hgr.out.size
          obtain ⟨P, hP⟩ : ∃ P, pickI D (At.take j) = P := ⟨_, rfl⟩
          rw [hP] at hown HST
          clear hc hc2 hz hx hz0 hz1 hP
          have hnl : ∀ (i : Nat) (u : Value), ([.int .i64 x] : List Value)[i]? = some u → (wr.alloc (.cells #[.int .i64 x] 3)).cell? ((⟨wr.heap.size, 0, none⟩ : Addr).add i) = some u := cell_one_new _ _ _
          have HNL := Lib.hid hnl
          have hown2 := hown.out.alloc (.cells #[.int .i64 x] 3)
          clear hnl
          go_wp2_with (at_builtin; refine wpList_append_own_at _ rfl _ _ 22 rfl w.heap.size 3 i0 (.int .i64 0) 1 8 Try.underlying22 hi0 hz0' hz1' hz2' rfl (by decide) _ _ _ rfl hown2 ⟨wr.heap.size, 0, none⟩ 1 1 [.int .i64 x] rfl rfl HNL.out ?c2 ?c3 ?c4 ?c5 ?_)
          case c2 => simp [Value.oneCell']
          case c3 => simp only [maxLen]; omega
          case c4 => omega
          case c5 => (try simp only [World.size_alloc]); omega
          intro v8 w8 hown8 hg8 _ _
          obtain ⟨g8, o8, g8', c8, rfl⟩ := row_one hgr.out (Nat.le_refl _) hown.out hown8 hg8
          have HG8 := Lib.hid g8
          have HO8 := Lib.hid o8
          clear hown8 hg8 g8 o8 hown2
          go_wp2_with fail
          go_roundw
          case rel => exact ⟨j + 1, some ⟨g8', 0, none⟩, c8, by omega, by go_num, rfl, Lib.hid (by rw [HST.out]; exact HO8.out), HG8⟩
          case measure => simp [intOf]; omega
        · have hjn : j = m := by omega
          have HJ := Lib.hid hjn
          clear hjn
          go_wp2_with fail
          go_ret2
          have e : At.take j = At := by rw [HJ.out, ← HM.out, List.take_length]
          have h3 := hown.out
          rw [e] at h3
          have e2 : (pickI D At).length = j := by rw [pickI_len, HM.out, HJ.out]
          exact ⟨A3, c3, by rw [e2]; rfl, hgr.out, by rw [e2]; exact h3⟩

end Go.Proofs.Ytpakihjkjdanlaa
