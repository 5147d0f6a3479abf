/- What the model's MergeLengths does; the same as the program's. -/
import Derived.Test.YtpakihjkjdanlabSegSum
namespace Go.Proofs.Ytpakihjkjdanlab
open Go.RowKit

theorem plus_sum : ∀ (l : List Int) (r : Int), l.foldl plusF r = r + sumI l
  | [], r => by simp [sumI]
  | z :: l, r => by simp only [List.foldl_cons, plus_sum l, plusF, sumI]; omega
theorem cutI_in4 : ∀ (L D : List Int) (j : Nat) (seg : List Int), okN 400 D = true → (cutI L D)[j]? = some seg → okN 400 seg = true ∧ seg.length ≤ D.length
  | [], _, _, _, _, h => by simp [cutI] at h
  | z :: L, D, 0, seg, hok, h => by
    simp only [cutI, List.getElem?_cons_zero, Option.some.injEq] at h
    subst h
    exact ⟨okN_take hok _, by rw [List.length_take]; omega⟩
  | z :: L, D, j + 1, seg, hok, h => by
    have := cutI_in4 L (D.drop z.toNat) j seg (okN_drop hok _) (by simpa [cutI] using h)
    exact ⟨this.1, by have := this.2; rw [List.length_drop] at this; omega⟩
theorem mergeB_get {L D : List Int} (h : mergeB L D = true) : lensB L = true ∧ lensB D = true ∧ (D.length : Int) = sumI L := by
  simp only [mergeB, Bool.and_eq_true, decide_eq_true_eq] at h
  exact h

set_option maxHeartbeats 1000000 in
/-- Where the arguments are not as they are to be. -/
theorem smerge_no (v u : Value) (L D : List Int) (w : World) (hv : OwnI w v L) (hu : OwnI w u D) (hn : L.length ≤ 1048576) (hm : D.length ≤ 1048576) (hb : mergeB L D = false) :
    Calls Try.prog 34 #[v, u] w (ListPostB [] false w) := by
  obtain ⟨A, c, rfl, hA, _, _, _⟩ := hv.form
  obtain ⟨B, d, rfl, hB, _, _, _⟩ := hu.form
  have hg0 : w.grownBy (w.alloc (.cells #[] 3)) none := World.grownBy_alloc _ _ _
  have HS := Lib.hid (slens_any A c L (w.alloc (.cells #[] 3)) (hA.grown hg0 (by simp)) hn)
  have HS2 := Lib.hid (slens_any B d D (w.alloc (.cells #[] 3)) (hB.grown hg0 (by simp)) hm)
  have HSM := Lib.hid (fun hok => stotal_any A c L (w.alloc (.cells #[] 3)) (hA.grown hg0 (by simp)) hok hn)
  have HP := Lib.hid (show ListPostB [] false w (.returned (.tuple #[.slice (some ⟨w.heap.size, 0, none⟩) 0 0, .bool false])) (w.alloc (.cells #[] 3)) from ⟨_, 0, rfl, hg0, made_row w w.heap.size (Nat.le_refl _)⟩)
  obtain ⟨n, hnn⟩ : ∃ n, L.length = n := ⟨_, rfl⟩
  obtain ⟨m, hmm⟩ : ∃ m, D.length = m := ⟨_, rfl⟩
  cases hl : lensB L with
  | false =>
    rw [hl, hnn] at HS
    rw [hnn, hmm]
    clear hA hB hn hm hnn hmm hl hv hu hb hg0
    go_enter Try.func34, Try.ntmps34
    go_wp2_with fail
    refine HS.out.mono ?_
    rintro e w1 ⟨rfl, rfl⟩
    go_wp2_with fail
    go_ret2
    exact HP.out
  | true =>
    obtain ⟨_, hok, hs4, hs0⟩ := lensB_get hl
    have HSM2 := Lib.hid (HSM.out hok)
    obtain ⟨s, hss⟩ : ∃ s : Nat, sumI L = (s : Int) := ⟨(sumI L).toNat, by omega⟩
    rw [hl, hnn] at HS
    rw [hss, hnn] at HSM2
    cases hl2 : lensB D with
    | false =>
      rw [hl2, hmm] at HS2
      rw [hnn, hmm]
      clear hA hB hn hm hnn hmm hl hl2 hv hu hb hg0 hok hs4 hs0 hss HSM
      go_enter Try.func34, Try.ntmps34
      go_wp2_with fail
      refine HS.out.mono ?_
      rintro e w1 ⟨rfl, rfl⟩
      go_wp2_with fail
      refine HS2.out.mono ?_
      rintro e w1 ⟨rfl, rfl⟩
      go_wp2_with fail
      go_ret2
      exact HP.out
    | true =>
      have hne : ((s : Int) != (m : Int)) = true := by
        rw [bne_iff_ne]
        intro e
        simp [mergeB, hl, hl2, hss, hmm] at hb
        omega
      rw [hl2, hmm] at HS2
      rw [hnn, hmm]
      clear hA hB hn hm hnn hmm hl hl2 hv hu hb hg0 hok hs4 hs0 hss HSM
      go_enter Try.func34, Try.ntmps34
      go_wp2_with fail
      refine HS.out.mono ?_
      rintro e w1 ⟨rfl, rfl⟩
      go_wp2_with fail
      refine HS2.out.mono ?_
      rintro e w1 ⟨rfl, rfl⟩
      go_wp2_with fail
      refine HSM2.out.mono ?_
      rintro e w1 ⟨rfl, rfl⟩
      go_wp2_with fail
      go_ret2
      exact HP.out

set_option maxRecDepth 100000 in
set_option maxHeartbeats 2000000 in
theorem smerge_yes (A B : Option Addr) (c d : Nat) (L D : List Int) (w : World) (hA : Ints w A L) (hB : OwnI w (.slice B D.length d) D) (hb : mergeB L D = true) :
    Calls Try.prog 34 #[.slice A L.length c, .slice B D.length d] w (ListPostB ((cutI L D).map fun l => l.foldl plusF 0) true w) := by
  obtain ⟨i0, hi0, hz0', hz1', hz2'⟩ := info_parts infoJ
  obtain ⟨hl, hl2, hsum⟩ := mergeB_get hb
  obtain ⟨hl4, hok, hs4, _⟩ := lensB_get hl
  obtain ⟨_, hok2, _, _⟩ := lensB_get hl2
  have hg0 : w.grownBy (w.alloc (.cells #[] 3)) none := World.grownBy_alloc _ _ _
  have hDB : Ints w B D := by obtain ⟨_, _, e, h, _, _⟩ := hB.form; cases e; exact h
  have HL1 := Lib.hid (slens_any A c L (w.alloc (.cells #[] 3)) (hA.grown hg0 (by simp)) (by omega))
  have HL2 := Lib.hid (slens_any B d D (w.alloc (.cells #[] 3)) (hDB.grown hg0 (by simp)) (by omega))
  have HSM := Lib.hid (stotal_any A c L (w.alloc (.cells #[] 3)) (hA.grown hg0 (by simp)) hok (by omega))
  have HC := Lib.hid (fun u (hg : w.grownBy u none) => scut_any A B c d L D u (hA.grown hg (by simp)) (hB.grown0 hg) hl hsum)
  have HIN := Lib.hid (fun j seg h => cutI_in4 L D j seg hok2 h)
  have HLEN := Lib.hid (cutI_len L D)
  have HDL := Lib.hid (show D.length ≤ 400 by omega)
  rw [hl] at HL1
  rw [hl2] at HL2
  rw [← hsum] at HSM
  obtain ⟨LL, hLL⟩ : ∃ LL, cutI L D = LL := ⟨_, rfl⟩
  rw [hLL] at HC HIN HLEN ⊢
  obtain ⟨res, hres⟩ : ∃ res, LL.map (fun l => l.foldl plusF 0) = res := ⟨_, rfl⟩
  have HRES := Lib.hid hres
  have HRL := Lib.hid (show res.length = LL.length by rw [← hres, List.length_map])
  rw [hres]
  obtain ⟨n, hnn⟩ : ∃ n, L.length = n := ⟨_, rfl⟩
  obtain ⟨m, hmm⟩ : ∃ m, D.length = m := ⟨_, rfl⟩
  obtain ⟨p, hpp⟩ : ∃ p, LL.length = p := ⟨_, rfl⟩
  have hp4 : p ≤ 400 := by have := HLEN.out; omega
  have HP := Lib.hid hpp
  have HBD : Hid (OwnI w (.slice B m d) D) := Lib.hid (by rw [← hmm]; exact hB)
  rw [hnn] at HL1 HSM
  rw [hmm] at HL2 HSM
  rw [hnn, hmm] at HC ⊢
  have hmm2 : ((m : Int) != (m : Int)) = false := by simp
  clear hA hB hl hl2 hsum hok hok2 hl4 hs4 hLL hres hnn hmm hpp hg0 hDB hb
  go_enter Try.func34, Try.ntmps34
  go_wp2_with fail
  refine HL1.out.mono ?_
  rintro e w1 ⟨rfl, rfl⟩
  go_wp2_with fail
  refine HL2.out.mono ?_
  rintro e w1 ⟨rfl, rfl⟩
  go_wp2_with fail
  refine HSM.out.mono ?_
  rintro e w1 ⟨rfl, rfl⟩
  go_wp2_with fail
  clear hmm2
  refine (HC.out _ (World.grownBy_alloc _ _ _)).mono ?_
  rintro e w1 ⟨A1, c1, vs, rfl, hg1, hr1, hs1⟩
  rw [HP.out] at hr1 hs1
  rw [HP.out]
  have HG1 := Lib.hid ((World.grownBy_alloc w (.cells #[] 3) none).trans hg1)
  have HR1 := Lib.hid hr1
  have HS1 := Lib.hid (hs1 w HBD.out)
  have hro := made_row w w.heap.size (Nat.le_refl _)
  have HRO := Lib.hid (own_keep hro (fun g hg => hg1.block g (hro.lt g hg).2 (by simp)))
  clear hg1 hr1 hro hs1
  go_wp2_with fail
  go_loopw [6, 30] (fun u i wr => ∃ (j : Nat) (A3 : Option Addr) (c3 : Nat), j ≤ p ∧ i = .int .i64 j ∧ u = .slice A3 j c3 ∧ Hid (wr.ownsRow w.heap.size 3 1 (.slice A3 j c3) j ((res.take j).map (Value.int .i64))) ∧ Hid (w.grownBy wr none) ∧ Hid (wr.ownsRow (w.alloc (.cells #[] 3)).heap.size 22 1 (.slice A1 p c1) p vs)) (fun _ i _ => p - (intOf i).toNat)
  case atStart => exact ⟨0, some ⟨w.heap.size, 0, none⟩, 0, Nat.zero_le _, rfl, rfl, HRO, HG1, HR1⟩
  case round =>
    obtain ⟨j, A3, c3, hj, rfl, rfl, hown, hgr, hrw⟩ := hrel
    obtain ⟨wo, rfl⟩ : ∃ wo : World, wo = wr := ⟨_, rfl⟩
    by_cases hlt : j < p
    · obtain ⟨seg, hseg⟩ : ∃ seg, LL[j]? = some seg := ⟨_, List.getElem?_eq_getElem (by have := HP.out; omega)⟩
      obtain ⟨B2, c2, hvs, hcl, hiw⟩ := HS1.out j seg hlt hseg
      have hi : Ints wo B2 seg := hiw.grown hgr.out (by simp)
      obtain ⟨b, rfl⟩ : ∃ b, A1 = some ⟨b, 0, none⟩ := by
        rcases hrw.out.2 with ⟨hv, hn0⟩ | ⟨g, cap, cur, hv, _⟩
        · omega
        · cases hv; exact ⟨g, rfl⟩
      have hcell : wo.cell? ⟨b, j, none⟩ = some (.slice B2 seg.length c2) := (hrw.out.cellAt j (by omega)).trans hvs
      obtain ⟨hsok, hsl⟩ := HIN.out j seg hseg
      have HTOT := Lib.hid (stotal_any B2 c2 seg wo hi hsok (by have := HDL.out; omega))
      have hry : res[j]? = some (sumI seg) := by rw [← HRES.out, List.getElem?_map, hseg]; simp [plus_sum]
      have HRY := Lib.hid (at_take hry)
      obtain ⟨x, hx⟩ : ∃ x, sumI seg = x := ⟨_, rfl⟩
      rw [hx] at HTOT HRY
      obtain ⟨q, hq⟩ : ∃ q, seg.length = q := ⟨_, rfl⟩
      rw [hq] at HTOT hcell hcl
      have hB := hgr.out.size
      clear hseg hi hsok hsl hq hry hvs hiw hx
      go_wp2_with fail
      refine HTOT.out.mono ?_
      rintro e w2 ⟨rfl, rfl⟩
      have hnl : ∀ (i : Nat) (u : Value), ([.int .i64 x] : List Value)[i]? = some u → (wo.alloc (.cells #[.int .i64 x] 3)).cell? ((⟨wo.heap.size, 0, none⟩ : Addr).add i) = some u := cell_one_new _ _ _
      have HNL := Lib.hid hnl
      have hown2 := hown.out.alloc (.cells #[.int .i64 x] 3)
      clear hnl
      go_wp2_with (at_builtin; refine wpList_append_own_at _ rfl _ _ 22 rfl w.heap.size 3 i0 (.int .i64 0) 1 8 Try.underlying22 hi0 hz0' hz1' hz2' rfl (by decide) _ _ _ rfl hown2 ⟨wo.heap.size, 0, none⟩ 1 1 [.int .i64 x] rfl rfl HNL.out ?c2 ?c3 ?c4 ?c5 ?_)
      case c2 => simp [Value.oneCell']
      case c3 => simp only [maxLen]; omega
      case c4 => omega
      case c5 => (try simp only [World.size_alloc]); omega
      intro v8 w8 hown8 hg8 _ _
      rw [← List.map_take] at hown8
      have HR8 := Lib.hid (own_aside3 (hrw.out.alloc (.cells #[.int .i64 x] 3)) hown2 (by decide) hg8)
      obtain ⟨g8, o8, g8', c8, rfl⟩ := row_one hgr.out (Nat.le_refl _) hown.out hown8 hg8
      have HG8 := Lib.hid g8
      have HO8 := Lib.hid o8
      clear hown8 hg8 g8 o8 hown2
      go_wp2_with fail
      go_roundw
      case rel => exact ⟨j + 1, some ⟨g8', 0, none⟩, c8, by omega, by go_num, rfl, Lib.hid (by rw [HRY.out]; exact HO8.out), HG8, HR8⟩
      case measure => simp [intOf]; omega
    · have hjn : j = p := by omega
      have HJ := Lib.hid hjn
      clear hjn
      go_wp2_with fail
      go_ret2
      have e2 : res.length = j := by have := HRL.out; have := HP.out; have := HJ.out; omega
      have h3 := hown.out
      rw [List.take_of_length_le (by omega)] at h3
      refine ⟨A3, c3, by rw [e2]; rfl, hgr.out, by rw [e2]; exact h3⟩

theorem smerge_spec (v u : Value) (L D : List Int) (w : World) (hv : OwnI w v L) (hu : OwnI w u D) (hn : L.length ≤ 1048576) (hm : D.length ≤ 1048576) :
    Calls Try.prog 34 #[v, u] w (ListPostB (mergeR L D) (mergeB L D) w) := by
  cases hb : mergeB L D with
  | false =>
    have hr : mergeR L D = [] := by simp [mergeR, hb]
    rw [hr]
    exact smerge_no v u L D w hv hu hn hm hb
  | true =>
    have hr : mergeR L D = (cutI L D).map (fun l => l.foldl plusF 0) := by simp [mergeR, hb]
    rw [hr]
    obtain ⟨A, c, rfl, hA, _, _, _⟩ := hv.form
    obtain ⟨B, d, rfl, hB, _, _, _⟩ := hu.form
    exact smerge_yes A B c d L D w hA hu hb

/-- Both at once: the same numbers. -/
theorem both_merge (L D : List Int) (hn : L.length ≤ 1048576) (hm : D.length ≤ 1048576) : ∃ (zs : List Int) (b : Bool), zs.length ≤ 1048576 ∧
    (∀ v u w, OwnI w v L → OwnI w u D → Calls Try.prog 34 #[v, u] w fun e w' => ∃ A c, e = .returned (.tuple #[.slice A zs.length c, .bool b]) ∧ w.grownBy w' none ∧ Ints w' A zs) ∧
    (∀ v u w, OwnI w v L → OwnI w u D → Calls Try.prog 35 #[v, u] w fun e w' => ∃ A c, e = .returned (.tuple #[.slice A zs.length c, .bool b]) ∧ w.grownBy w' none ∧
      w'.ownsRow w.heap.size 3 1 (.slice A zs.length c) zs.length (zs.map (Value.int .i64))) := by
  refine ⟨mergeR L D, mergeB L D, ?_, fun v u w h1 h2 => (smerge_spec v u L D w h1 h2 hn hm).mono ?_, fun v u w h1 h2 => (merge_impl v u L D w h1 h2 hn hm).mono ?_⟩
  · unfold mergeR
    split
    · rw [List.length_map, cutI_len]; exact hn
    · simp
  · rintro e w' ⟨A, c, rfl, hg, ho⟩
    exact ⟨A, c, rfl, hg, Ints.of_own ho⟩
  · rintro e w' ⟨A, c, rfl, hg, ho⟩
    exact ⟨A, c, rfl, hg, ho⟩

end Go.Proofs.Ytpakihjkjdanlab
