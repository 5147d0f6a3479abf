/- What isData, areIndices, gather (of ints) and GatherData of the program do. -/
import Derived.Test.YtpakihjkjdanlaaGathS
namespace Go.Proofs.Ytpakihjkjdanlaa
open Go.RowKit

set_option maxHeartbeats 400000 in
theorem isdata1_any (A : Option Addr) (c : Nat) (zs : List Int) (w : World) (h : Ints w A zs) (hn : zs.length ≤ 1048576) :
    Calls Try.prog 56 #[.slice A zs.length c] w fun e w' => e = .returned (.bool (dataB zs)) ∧ w = w' := by
  have HU := Lib.hid (isdata_any A c 10006 zs w h hn)
  obtain ⟨r, hr⟩ : ∃ r, dataB zs = r := ⟨_, rfl⟩
  rw [show (decide (zs.length ≤ 400) && okN 10006 zs) = r from hr] at HU
  rw [hr]
  obtain ⟨n, hnn⟩ : ∃ n, zs.length = n := ⟨_, rfl⟩
  rw [hnn] at HU ⊢
  clear h hn hnn hr
  go_enter Try.func56, Try.ntmps56
  go_wp2_with fail
  refine HU.out.mono ?_
  rintro e w1 ⟨rfl, rfl⟩
  go_wp2_with fail
  go_ret
  exact ⟨rfl, rfl⟩

set_option maxHeartbeats 400000 in
theorem idx_any (A : Option Addr) (c m : Nat) (zs : List Int) (w : World) (h : Ints w A zs) (hn : zs.length ≤ 1048576) (hm : m ≤ 1048576) :
    Calls Try.prog 57 #[.slice A zs.length c, .int .i64 (m : Int)] w fun e w' => e = .returned (.bool (idxB m zs)) ∧ w = w' := by
  have HU := Lib.hid (isdata_any A c ((m : Int) - 1) zs w h hn)
  obtain ⟨r, hr⟩ : ∃ r, idxB m zs = r := ⟨_, rfl⟩
  rw [show (decide (zs.length ≤ 400) && okN ((m : Int) - 1) zs) = r from hr] at HU
  rw [hr]
  obtain ⟨n, hnn⟩ : ∃ n, zs.length = n := ⟨_, rfl⟩
  rw [hnn] at HU ⊢
  clear h hn hnn hr
  go_enter Try.func57, Try.ntmps57
  go_wp2_with fail
  refine HU.out.mono ?_
  rintro e w1 ⟨rfl, rfl⟩
  go_wp2_with fail
  go_ret
  exact ⟨rfl, rfl⟩

theorem make_run (n : Nat) (hn : n ≤ 1048576) (u : World) : (Instr.makeSlice 22 (.int .i64 (n : Int)) (.int .i64 (n : Int))).run Try.prog u =
    .ok (.slice (some ⟨u.heap.size, 0, none⟩) n n) (u.alloc (.cells (madeCells #[.int .i64 0] n) 3)) := by
  obtain ⟨i0, hi0, hz0, hz1, hz2⟩ := info_parts infoJ
  have h := run_make (P := Try.prog) u 22 3 i0 (.int .i64 0) Try.underlying22 hi0 hz0 .i64 .i64 (n : Int) (n : Int) (by omega) (Int.le_refl _) (by rw [hz2]; omega) (by omega)
  simpa [hz1, Value.cells] using h
theorem made_own (w : World) (n : Nat) (hn : n ≤ 1048576) : (w.alloc (.cells (madeCells #[.int .i64 0] n) 3)).ownsRow w.heap.size 3 1 (.slice (some ⟨w.heap.size, 0, none⟩) n n) n (madeCells #[.int .i64 0] n).toList :=
  World.ownsRow_lit (base := w.heap.size) (e := 3) (size := 1) w (madeCells #[.int .i64 0] n) n (Nat.le_refl _) (by simp only [maxLen]; omega) (by simp [madeCells])
theorem take_setX {α : Type} (ys : List α) (m : Nat) (v : α) (h : m < ys.length) : (ys.set m v).take (m + 1) = ys.take m ++ [v] := by
  rw [List.take_add_one, List.take_set_of_le (Nat.le_refl _), List.getElem?_set_self h]
  rfl

set_option maxRecDepth 100000 in
set_option maxHeartbeats 4000000 in
theorem gather_any (A B : Option Addr) (c d : Nat) (D At : List Int) (w : World) (hA : Ints w A D) (hB : Ints w B At) (hn : D.length ≤ 1048576) (hm : At.length ≤ 1048576) (hmem : ∀ x ∈ At, 0 ≤ x ∧ x < (D.length : Int)) :
    Calls Try.prog 58 #[.slice A D.length c, .slice B At.length d] w (ListPost (pickI D At) w) := by
  have HA := Lib.hid hA
  have HB := Lib.hid hB
  have HME := Lib.hid hmem
  obtain ⟨n, hnn⟩ : ∃ n, D.length = n := ⟨_, rfl⟩
  have HN := Lib.hid hnn
  obtain ⟨m, hmm⟩ : ∃ m, At.length = m := ⟨_, rfl⟩
  have HM := Lib.hid hmm
  rw [hnn] at hn ⊢
  rw [hmm] at hm ⊢
  have hmk := make_run m hm
  have HO := Lib.hid (made_own w m hm)
  clear hA hB hmem hnn hmm
  go_enter Try.func58, Try.ntmps58
  go_wp2_with fail
  go_loopw [13] (fun i wr => ∃ (j : Nat) (ys : List Value), j ≤ m ∧ i = .int .i64 j ∧ Hid (wr.ownsRow w.heap.size 3 1 (.slice (some ⟨w.heap.size, 0, none⟩) m m) m ys) ∧ Hid (ys.take j = (pickI D (At.take j)).map (Value.int .i64)) ∧ Hid (w.grownBy wr none)) (fun i _ => m - (intOf i).toNat)
  case atStart => exact ⟨0, _, Nat.zero_le _, rfl, HO, Lib.hid (by simp [pickI]), Lib.hid (World.grownBy_alloc _ _ _)⟩
  case round =>
    obtain ⟨j, ys, hj, rfl, hown, hyt, hgr⟩ := hrel
    by_cases hlt : j < m
    · obtain ⟨z0, hz⟩ : ∃ z, At[j]? = some z := ⟨_, List.getElem?_eq_getElem (by have := HM.out; omega)⟩
      obtain ⟨b, off, rfl, _, hc⟩ := HB.out.grown hgr.out (by simp) (by have := HM.out; omega)
      have hcell := hc j z0 hz
      obtain ⟨hz0, hz1⟩ := HME.out z0 (List.mem_of_getElem? hz)
      obtain ⟨z, rfl⟩ : ∃ z : Nat, z0 = (z : Int) := ⟨z0.toNat, by omega⟩
      have hzn : z < n := by have := HN.out; omega
      obtain ⟨x, hx⟩ : ∃ x, D[z]? = some x := ⟨_, List.getElem?_eq_getElem (by have := HN.out; omega)⟩
      obtain ⟨b2, off2, rfl, _, hc2⟩ := HA.out.grown hgr.out (by simp) (by have := HN.out; omega)
      have hcell2 := hc2 z x hx
      have HPS : Hid (pickI D (At.take (j + 1)) = pickI D (At.take j) ++ [x]) := Lib.hid (by rw [at_take hz, pickI, pickI, List.map_append]; congr 1; simp [hx])
      have hyl : ys.length = m := by have := hown.out.1; omega
      have hcell3 : wr.cell? ⟨w.heap.size, j, none⟩ = some ys[j] := by have := (hown.out.cellAt j (by omega)).trans (List.getElem?_eq_getElem (by omega)); simpa using this
      have hfr : wr.frozen? ⟨w.heap.size, j, none⟩ = false := by have := hown.out.frozenAt j; simpa using this
      have HST := Lib.hid (hown.out.stored j (.int .i64 x))
      have HYT : Hid ((ys.set j (.int .i64 x)).take (j + 1) = (pickI D (At.take (j + 1))).map (Value.int .i64)) := Lib.hid (by
        rw [take_setX _ _ _ (by omega), hyt.out, HPS.out, List.map_append]
        rfl)
      generalize ys[j] = y0 at hcell3
      clear hyl hc hc2 hz hx hz0 hz1
      go_wp2_with fail
      go_roundw
      case rel => exact ⟨j + 1, _, by omega, by go_num, Lib.hid HST.out.1, HYT, Lib.hid (gr_own hgr.out HST.out.2 (fun k e => by cases e; exact Nat.le_refl _))⟩
      case measure => simp [intOf]; omega
    · have hjn : j = m := by omega
      have HJ := Lib.hid hjn
      clear hjn
      go_wp2_with fail
      go_ret
      have e : At.take j = At := by rw [HJ.out, ← HM.out, List.take_length]
      have h3 := hyt.out
      have h4 := hown.out
      rw [e, HJ.out, List.take_of_length_le (by have := h4.1; omega)] at h3
      rw [h3] at h4
      have e2 : (pickI D At).length = m := by rw [pickI_len, HM.out]
      exact ⟨_, m, by rw [e2]; rfl, hgr.out, by rw [e2]; exact h4⟩

set_option maxHeartbeats 1000000 in
theorem gatherdata_any (A B : Option Addr) (c d : Nat) (D At : List Int) (w : World) (hA : Ints w A D) (hB : Ints w B At) (hn : D.length ≤ 1048576) (hm : At.length ≤ 1048576) :
    Calls Try.prog 18 #[.slice A D.length c, .slice B At.length d] w (ListPostB (gatherR D At) (gatherB D At) w) := by
  have HD := Lib.hid (isdata1_any A c D w hA hn)
  have HI := Lib.hid (idx_any B d D.length At w hB hm hn)
  cases h1 : dataB D with
  | false =>
    have hr : gatherR D At = [] := by simp [gatherR, gatherB, h1]
    have hb : gatherB D At = false := by simp [gatherB, h1]
    obtain ⟨n, hnn⟩ : ∃ n, D.length = n := ⟨_, rfl⟩
    obtain ⟨m, hmm⟩ : ∃ m, At.length = m := ⟨_, rfl⟩
    rw [h1, hnn] at HD
    rw [hr, hb, hnn, hmm]
    clear hA hB hn hm hnn hmm hr hb h1 HI
    go_enter Try.func18, Try.ntmps18
    go_wp2_with fail
    refine HD.out.mono ?_
    rintro e w1 ⟨rfl, rfl⟩
    go_wp2_with fail
    go_ret2
    exact postB_no _ _ (gr_refl _ _)
  | true =>
    cases h2 : idxB D.length At with
    | false =>
      have hr : gatherR D At = [] := by simp [gatherR, gatherB, h2]
      have hb : gatherB D At = false := by simp [gatherB, h2]
      obtain ⟨n, hnn⟩ : ∃ n, D.length = n := ⟨_, rfl⟩
      obtain ⟨m, hmm⟩ : ∃ m, At.length = m := ⟨_, rfl⟩
      rw [h1, hnn] at HD
      rw [h2, hnn, hmm] at HI
      rw [hr, hb, hnn, hmm]
      clear hA hB hn hm hnn hmm hr hb h1 h2
      go_enter Try.func18, Try.ntmps18
      go_wp2_with fail
      refine HD.out.mono ?_
      rintro e w1 ⟨rfl, rfl⟩
      go_wp2_with fail
      refine HI.out.mono ?_
      rintro e w1 ⟨rfl, rfl⟩
      go_wp2_with fail
      go_ret2
      exact postB_no _ _ (gr_refl _ _)
    | true =>
      have hr : gatherR D At = pickI D At := by simp [gatherR, gatherB, h1, h2]
      have hb : gatherB D At = true := by simp [gatherB, h1, h2]
      have HF := Lib.hid (gather_any A B c d D At w hA hB hn hm (idxB_get h2).2.2)
      obtain ⟨n, hnn⟩ : ∃ n, D.length = n := ⟨_, rfl⟩
      obtain ⟨m, hmm⟩ : ∃ m, At.length = m := ⟨_, rfl⟩
      rw [h1, hnn] at HD
      rw [h2, hnn, hmm] at HI
      rw [hr, hb, hnn, hmm]
      rw [hnn, hmm] at HF
      obtain ⟨zs, hzs⟩ : ∃ zs, pickI D At = zs := ⟨_, rfl⟩
      rw [hzs] at HF ⊢
      clear hA hB hn hm hnn hmm hr hb h1 h2 hzs
      go_enter Try.func18, Try.ntmps18
      go_wp2_with fail
      refine HD.out.mono ?_
      rintro e w1 ⟨rfl, rfl⟩
      go_wp2_with fail
      refine HI.out.mono ?_
      rintro e w1 ⟨rfl, rfl⟩
      go_wp2_with fail
      refine HF.out.mono ?_
      rintro e w1 ⟨A1, c1, rfl, hg, ho⟩
      have HP := Lib.hid (And.intro hg ho)
      clear hg ho
      go_wp2_with fail
      go_ret2
      exact ⟨A1, c1, rfl, HP.out.1, HP.out.2⟩

/-- Both at once: the same numbers. -/
theorem both_gather (L D : List Int) (hn : L.length ≤ 1048576) (hm : D.length ≤ 1048576) : ∃ (zs : List Int) (b : Bool), zs.length ≤ 1048576 ∧
    (∀ v u w, OwnI w v L → OwnI w u D → Calls Try.prog 16 #[v, u] w fun e w' => ∃ A c, e = .returned (.tuple #[.slice A zs.length c, .bool b]) ∧ w.grownBy w' none ∧ Ints w' A zs) ∧
    (∀ v u w, OwnI w v L → OwnI w u D → Calls Try.prog 18 #[v, u] w fun e w' => ∃ A c, e = .returned (.tuple #[.slice A zs.length c, .bool b]) ∧ w.grownBy w' none ∧
      w'.ownsRow w.heap.size 3 1 (.slice A zs.length c) zs.length (zs.map (Value.int .i64))) := by
  refine ⟨gatherR L D, gatherB L D, ?_, fun v u w h1 h2 => ?_, fun v u w h1 h2 => ?_⟩
  · unfold gatherR
    split
    · rw [pickI_len]; exact hm
    · simp
  · obtain ⟨A, c, rfl, hA, _, _, _⟩ := h1.form
    obtain ⟨B, d, rfl, hB, _, _, _⟩ := h2.form
    refine (sgather_any A B c d L D w hA hB hn hm).mono ?_
    rintro e w' ⟨A, c, rfl, hg, ho⟩
    exact ⟨A, c, rfl, hg, Ints.of_own ho⟩
  · obtain ⟨A, c, rfl, hA, _, _, _⟩ := h1.form
    obtain ⟨B, d, rfl, hB, _, _, _⟩ := h2.form
    refine (gatherdata_any A B c d L D w hA hB hn hm).mono ?_
    rintro e w' ⟨A, c, rfl, hg, ho⟩
    exact ⟨A, c, rfl, hg, ho⟩

end Go.Proofs.Ytpakihjkjdanlaa
