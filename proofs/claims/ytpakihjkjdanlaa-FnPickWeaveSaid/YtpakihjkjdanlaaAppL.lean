/- append of a whole list of ints onto a row of the call's own; slices.Grow of nothing; slices.Concat of lists of ints. -/
import Derived.Test.YtpakihjkjdanlaaSegCut
import Derived.Lib.AppendZerosOnto
namespace Go.Proofs.Ytpakihjkjdanlaa
open Go.RowKit

theorem run_append_list (w : World) (base : Nat) (v : Value) (n : Nat) (xs : List Value) (hown : w.ownsRow base 3 1 v n xs) (A : Option Addr) (c : Nat) (M : List Int) (hA : Ints w A M) (hn : n + M.length ≤ 1048576) (hbase : base ≤ w.heap.size) :
    ∃ v' w', (Builtin.append_ #[22, 22] 22 #[v, .slice A M.length c]).run Try.prog w = .ok v' w' ∧ w'.ownsRow base 3 1 v' (n + M.length) (xs ++ M.map (Value.int .i64)) ∧ w.grownBy w' v.ownBlock ∧ (v'.ownBlock = v.ownBlock ∨ v'.ownBlock = some w.heap.size) := by
  obtain ⟨i0, hi0, hz0, hz1, hz2⟩ := info_parts infoJ
  cases A with
  | some a =>
    obtain ⟨v', w', h1, h2, h3, _, h5⟩ := run_append_own_at (P := Try.prog) w base 22 22 3 i0 (.int .i64 0) 1 8 Try.underlying22 hi0 hz0 hz1 hz2 rfl (by decide) v n xs hown a M.length c (M.map (Value.int .i64)) (by simp)
      (fun j u hj => by
        rw [List.getElem?_map] at hj
        cases hz : M[j]? with
        | none => rw [hz] at hj; cases hj
        | some z =>
          rw [hz] at hj
          cases hj
          obtain ⟨b, off, e, _, hc⟩ := hA (by have := (List.getElem?_eq_some_iff.1 hz).1; omega)
          cases e
          rw [addr_flat]
          exact hc j z hz)
      (fun u hu => by
        obtain ⟨z, _, rfl⟩ := List.mem_map.1 hu
        rfl) (by simp only [maxLen]; omega) (by omega) hbase
    exact ⟨v', w', h1, h2, h3, h5⟩
  | none =>
    have hM : M = [] := by
      cases M with
      | nil => rfl
      | cons z M =>
        obtain ⟨b, off, e, _⟩ := hA (by simp)
        cases e
    subst hM
    have hu := Try.underlying22
    refine ⟨v, w, ?_, by simpa using hown, ⟨rfl, rfl, rfl, Nat.le_refl _, fun _ _ _ => rfl⟩, .inl rfl⟩
    rcases hown.2 with ⟨rfl, rfl⟩ | ⟨g, cap, cur, rfl, _, _, hnc, _⟩
    · simp [Builtin.append_, run_underlying hu, sizeOf, typeInfo, hi0, Builtin.lenOf, Builtin.firstCells]
    · simp [Builtin.append_, run_underlying hu, sizeOf, typeInfo, hi0, Builtin.lenOf, Builtin.firstCells, hnc, storeCells]

theorem flat_step {LL : List (List Int)} {j : Nat} {M : List Int} (h : LL[j]? = some M) : (LL.take (j + 1)).flatten = (LL.take j).flatten ++ M := by
  rw [at_take h, List.flatten_append]
  simp
theorem flat_le (LL : List (List Int)) (j : Nat) : (LL.take j).flatten.length ≤ LL.flatten.length := by
  have h : LL.flatten = (LL.take j).flatten ++ (LL.drop j).flatten := by rw [← List.flatten_append, List.take_append_drop]
  rw [h, List.length_append]
  omega

set_option maxRecDepth 100000 in
set_option maxHeartbeats 2000000 in
theorem grow_any (n : Nat) (w : World) (hn : n ≤ 1048576) :
    Calls Try.prog 109 #[.slice none 0 0, .int .i64 (n : Int)] w fun e w' => ∃ v, e = .returned v ∧ w'.ownsRow w.heap.size 3 1 v 0 [] ∧ w.grownBy w' none := by
  obtain ⟨i0, hi0, hz0, hz1, hz2⟩ := info_parts infoJ
  by_cases h0 : n = 0
  · subst h0
    go_enter Try.func109, Try.ntmps109
    go_wp2_with fail
    go_ret
    exact ⟨_, rfl, World.ownsRow_nil _ _ _ _, gr_refl _ _⟩
  · have hrz : ∀ ty, (Builtin.append_ #[22, 3] ty #[.slice none 0 0, .int .i64 (n : Int)]).run Try.prog w =
        .ok (.slice (some ⟨w.heap.size, 0, none⟩) n (grownCap w n 0 3)) (w.drew.alloc (.cells (#[] ++ Builtin.zeroCells (Value.cells (.int .i64 0)) n ++ Builtin.zeroCells (Value.cells (.int .i64 0)) (grownCap w n 0 3 - n)) 3)) := fun ty => by
      have h := Lib.run_append_grow_zeros (P := Try.prog) w 22 3 ty 3 i0 (.int .i64 0) .i64 .i64 Try.underlying22 Try.underlying3 hi0 hz0 none 0 0 [] (run_firstCells_none w.drew i0.size 0 0 0) n (by omega) (by omega) (by omega) (by omega) (by rw [hz2]; omega)
        (by rw [hz2]; exact growslice_fits (by omega) (by omega))
      simpa using h
    have hG := grownCap_ge w n 0 3
    have hG2 := grownCap_le_maxLen w n 0 3 (by unfold maxLen; omega)
    obtain ⟨G, hGe⟩ : ∃ G, grownCap w n 0 3 = G := ⟨_, rfl⟩
    rw [hGe] at hrz hG hG2
    have hG63 : G ≤ 9223372036854775807 := by unfold maxLen at hG2; omega
    obtain ⟨W, hW⟩ : ∃ W, w.drew.alloc (.cells (#[] ++ Builtin.zeroCells (Value.cells (.int .i64 0)) n ++ Builtin.zeroCells (Value.cells (.int .i64 0)) (G - n)) 3) = W := ⟨_, rfl⟩
    have hgr : w.grownBy W none := by rw [← hW]; exact (gr_drewN w 1 none).trans (World.grownBy_alloc _ _ _)
    have hown : W.ownsRow w.heap.size 3 1 (.slice (some ⟨w.heap.size, 0, none⟩) 0 G) 0 [] := by
      refine ⟨rfl, .inr ⟨w.heap.size, G, _, rfl, Nat.le_refl _, by rw [← hW]; exact heap_alloc_new w.drew _, Nat.zero_le _, hG2, ?_, by simp⟩⟩
      simp only [Array.size_append, size_zeroCells, Value.cells]
      simp
      omega
    rw [hW] at hrz
    have HP := Lib.hid (And.intro hgr hown)
    clear hgr hown hW hGe hG2
    go_enter Try.func109, Try.ntmps109
    go_wp2_with (at_builtin; refine Lib.wpList_append_run _ rfl _ _ _ _ rfl _ _ rfl rfl _ _ (hrz _) ?_)
    all_goals (go_ret; exact ⟨_, rfl, HP.out.2, HP.out.1⟩)

set_option maxRecDepth 100000 in
set_option maxHeartbeats 4000000 in
theorem concat_any (A : Option Addr) (c : Nat) (LL : List (List Int)) (w : World) (hA : Rws w A LL) (hk : LL.length ≤ 1048576) (hs : LL.flatten.length ≤ 1048576) :
    Calls Try.prog 74 #[.slice A LL.length c] w (ListPost LL.flatten w) := by
  have HA := Lib.hid hA
  obtain ⟨k, hkk⟩ : ∃ k, LL.length = k := ⟨_, rfl⟩
  have HK := Lib.hid hkk
  obtain ⟨T, hT⟩ : ∃ T, LL.flatten = T := ⟨_, rfl⟩
  have HT := Lib.hid hT
  have HLE := Lib.hid (fun j => (show (LL.take j).flatten.length ≤ 1048576 from Nat.le_trans (flat_le LL j) hs))
  have HGR := Lib.hid (fun (n : Nat) (h : n ≤ 1048576) => grow_any n w h)
  rw [hkk] at hk ⊢
  rw [hT]
  clear hA hkk hT hs
  go_enter Try.func74, Try.ntmps74
  go_wp2_with fail
  go_loopw [3, 11] (fun a i wr => ∃ (j q : Nat), j ≤ k ∧ i = .int .i64 j ∧ a = .int .i64 (q : Int) ∧ q ≤ 1048576 ∧ Hid (q = (LL.take j).flatten.length) ∧ w = wr) (fun _ i _ => k - (intOf i).toNat)
  case atStart => exact ⟨0, 0, Nat.zero_le _, rfl, rfl, by omega, Lib.hid rfl, rfl⟩
  case round =>
    obtain ⟨j, q, hj, rfl, rfl, hq, hqq, rfl⟩ := hrel
    by_cases hlt : j < k
    · obtain ⟨M, hM⟩ : ∃ M, LL[j]? = some M := ⟨_, List.getElem?_eq_getElem (by have := HK.out; omega)⟩
      obtain ⟨b, off, B, d, rfl, hcell, hcap, hi⟩ := HA.out.at_ hM
      obtain ⟨z, hz⟩ : ∃ z, M.length = z := ⟨_, rfl⟩
      rw [hz] at hcell
      have hst := flat_step hM
      have hle := HLE.out (j + 1)
      have e : (LL.take (j + 1)).flatten.length = q + z := by rw [hst, List.length_append, ← hqq.out, hz]
      rw [e] at hle
      have HE := Lib.hid e
      have hneg : ¬ ((q : Int) + (z : Int) < 0) := by omega
      clear hcap hi hM hz hst e
      go_wp2_with fail
      go_roundw
      case rel => exact ⟨j + 1, q + z, by omega, by go_num, by go_num, hle, Lib.hid HE.out.symm, trivial⟩
      case measure => simp [intOf]; omega
    · have hjn : j = k := by omega
      have HJ := Lib.hid hjn
      have HG := Lib.hid (HGR.out q hq)
      clear hjn
      go_wp2_with fail
      refine HG.out.mono ?_
      rintro e w1 ⟨v, rfl, ho1, hg1⟩
      obtain ⟨A1, m1, c1, rfl⟩ := own_form ho1
      have hm1 : m1 = 0 := by
        rcases ho1.2 with ⟨h, _⟩ | ⟨g, cap, cur, h, _⟩
        · cases h; rfl
        · cases h; rfl
      subst hm1
      have HO1 := Lib.hid ho1
      have HG1 := Lib.hid hg1
      clear ho1 hg1 HG
      go_wp2_with fail
      go_loopw [6, 27] (fun u i wr => ∃ (j q : Nat) (A3 : Option Addr) (c3 : Nat), j ≤ k ∧ i = .int .i64 j ∧ u = .slice A3 q c3 ∧ q ≤ 1048576 ∧ Hid (q = (LL.take j).flatten.length) ∧ Hid (wr.ownsRow w.heap.size 3 1 (.slice A3 q c3) q (((LL.take j).flatten).map (Value.int .i64))) ∧ Hid (w.grownBy wr none)) (fun _ i _ => k - (intOf i).toNat)
      case atStart => exact ⟨0, 0, A1, c1, Nat.zero_le _, rfl, rfl, by omega, Lib.hid rfl, HO1, HG1⟩
      case round =>
        obtain ⟨j, q, A3, c3, hj, rfl, rfl, hq, hqq, hown, hgr⟩ := hrel
        by_cases hlt : j < k
        · obtain ⟨M, hM⟩ : ∃ M, LL[j]? = some M := ⟨_, List.getElem?_eq_getElem (by have := HK.out; omega)⟩
          obtain ⟨b, off, B, d, rfl, hcell, hcap, hi⟩ := (HA.out.grown hgr.out).at_ hM
          have hst := flat_step hM
          have hle := HLE.out (j + 1)
          have e : (LL.take (j + 1)).flatten.length = q + M.length := by rw [hst, List.length_append, ← hqq.out]
          rw [e] at hle
          obtain ⟨v2, w2, hrun, ho2, hg2, hat2⟩ := run_append_list wr w.heap.size _ q _ hown.out B d M hi hle hgr.out.size
          rw [← List.map_append, ← hst] at ho2
          have hg3 := gr_own hgr.out hg2 (fun g hg => (hown.out.lt g hg).1)
          obtain ⟨z, hz⟩ : ∃ z, M.length = z := ⟨_, rfl⟩
          rw [hz] at hcell hrun ho2 e hle
          obtain ⟨A4, m4, c4, rfl⟩ := own_form ho2
          have hm4 : m4 = q + z := by
            rcases ho2.2 with ⟨h, h'⟩ | ⟨g, cap, cur, h, _⟩
            · cases h; omega
            · cases h; rfl
          subst hm4
          have HE := Lib.hid e
          have HO2 := Lib.hid ho2
          have HG3 := Lib.hid hg3
          clear hcap hi hM hz hst e ho2 hg3 hg2 hat2
          go_wp2_with (at_builtin; refine Lib.wpList_append_run _ rfl _ _ _ _ rfl _ _ rfl rfl _ _ hrun ?_)
          go_roundw
          case rel => exact ⟨j + 1, q + z, A4, c4, by omega, by go_num, rfl, hle, Lib.hid HE.out.symm, HO2, HG3⟩
          case measure => simp [intOf]; omega
        · have hjn : j = k := by omega
          have HJ2 := Lib.hid hjn
          clear hjn
          go_wp2_with fail
          go_ret
          have e : LL.take j = LL := by rw [HJ2.out, ← HK.out, List.take_length]
          have h3 := hown.out
          have h4 := hqq.out
          rw [e, HT.out] at h3 h4
          exact ⟨A3, c3, by rw [← h4]; rfl, hgr.out, by rw [← h4]; exact h3⟩

end Go.Proofs.Ytpakihjkjdanlaa
