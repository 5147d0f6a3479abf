/- What TurnSegments does, of the model and of the program. -/
import Derived.Test.YtpakihjkjdanlaaMovT
import Derived.Test.YtpakihjkjdanlaaSegSt
namespace Go.Proofs.Ytpakihjkjdanlaa
open Go.RowKit

set_option maxRecDepth 100000 in
set_option maxHeartbeats 4000000 in
theorem sturn_yes (A : Option Addr) (c : Nat) (L : List Int) (w : World) (hA : Ints w A L) (hl : lensB L = true) :
    Calls Try.prog 28 #[.slice A L.length c] w (ListPostB (genI (turnF L) 0 L) true w) := by
  obtain ⟨i0, hi0, hz0', hz1', hz2'⟩ := info_parts infoJ
  obtain ⟨hl4, hok, hs4, _⟩ := lensB_get hl
  have hg0 := World.grownBy_alloc w (.cells #[] 3) none
  have HS := Lib.hid (slens_any A c L (w.alloc (.cells #[] 3)) (hA.grown hg0 (by simp)) (by omega))
  have HT := Lib.hid (sstarts_any A c L (w.alloc (.cells #[] 3)) (hA.grown hg0 (by simp)) hok (by omega))
  rw [hl] at HS
  have HA := Lib.hid hA
  have HOK := Lib.hid hok
  have HSUM := Lib.hid hs4
  have HG0 := Lib.hid hg0
  have HO0 := Lib.hid (made_row w w.heap.size (Nat.le_refl _))
  obtain ⟨n, hnn⟩ : ∃ n, L.length = n := ⟨_, rfl⟩
  have HN := Lib.hid hnn
  obtain ⟨y, hy⟩ : ∃ y, (startsI 0 L).length = y := ⟨_, rfl⟩
  have hyn : y = n := by rw [← hy, startsI_len, hnn]
  subst hyn
  have HY := Lib.hid hy
  rw [hnn] at hl4 HS HT ⊢
  clear hA hl hok hs4 hnn hg0 hy
  go_enter Try.func28, Try.ntmps28
  go_wp2_with fail
  refine HS.out.mono ?_
  rintro e w1 ⟨rfl, rfl⟩
  go_wp2_with fail
  refine HT.out.mono ?_
  rintro e w2 ⟨A7, c7, rfl, hg2, ho7⟩
  rw [HY.out] at ho7 ⊢
  have HO7 := Lib.hid ho7
  have HAP : Hid (∀ k, (Value.slice (some ⟨w.heap.size, 0, none⟩) 0 0).ownBlock = some k → (Value.slice A7 y c7).ownBlock ≠ some k) := Lib.hid (fun k h1 h2 => by
    have h3 := (ho7.lt k h2).1
    simp [Value.ownBlock] at h1 h3
    omega)
  have HO := Lib.hid (own_keep HO0.out (fun k hk => hg2.block k (HO0.out.lt k hk).2 (by simp)))
  have HG := Lib.hid (HG0.out.trans hg2)
  clear hg2 ho7 HO0 HG0 HS HT
  have hsz := HG.out.size
  go_wp2_with fail
  go_loopw [4, 16] (fun u i wr => ∃ (j s : Nat) (A3 : Option Addr) (c3 : Nat), j ≤ y ∧ i = .int .i64 j ∧ u = .slice A3 s c3 ∧ Hid ((s : Int) = sumI (L.take j)) ∧ Hid (wr.ownsRow w.heap.size 3 1 (.slice A3 s c3) s ((genI (turnF L) 0 (L.take j)).map (Value.int .i64))) ∧ Hid (w.grownBy wr none) ∧ Hid (wr.ownsRow (w.heap.size + 1) 3 1 (.slice A7 y c7) y ((startsI 0 L).map (Value.int .i64)) ∧ ∀ k, (Value.slice A3 s c3).ownBlock = some k → (Value.slice A7 y c7).ownBlock ≠ some k)) (fun _ i _ => y - (intOf i).toNat)
  case atStart => exact ⟨0, 0, some ⟨w.heap.size, 0, none⟩, 0, Nat.zero_le _, rfl, rfl, Lib.hid rfl, Lib.hid (by simpa [genI] using HO.out), HG, Lib.hid ⟨by simpa using HO7.out, HAP.out⟩⟩
  case round =>
    obtain ⟨j, s, A3, c3, hj, rfl, rfl, hs, hown, hgr, hi7⟩ := hrel
    obtain ⟨wo, rfl⟩ : ∃ wo : World, wo = wr := ⟨_, rfl⟩
    by_cases hlt : j < y
    · obtain ⟨z0, hz⟩ : ∃ z, L[j]? = some z := ⟨_, List.getElem?_eq_getElem (by have := HN.out; omega)⟩
      obtain ⟨b, off, rfl, _, hc⟩ := HA.out.grown hgr.out (by simp) (by have := HN.out; omega)
      have hcell := hc j z0 hz
      have hst := startsI_at L 0 j z0 hz
      obtain ⟨b7, o7, rfl, _, hc7⟩ := Ints.of_own (zs := startsI 0 L) (by rw [HY.out]; exact hi7.out.1) (by have := HY.out; omega)
      have hcell7 := hc7 j _ hst
      obtain ⟨hz0, hz4, hs0, hsz⟩ := sumI_le HOK.out hz
      obtain ⟨z, rfl⟩ : ∃ z : Nat, z0 = (z : Int) := ⟨z0.toNat, by omega⟩
      rw [← hs.out, Int.zero_add] at hcell7
      have hsz4 : s + z ≤ 400 := by have := HSUM.out; have := hs.out; omega
      have HST := Lib.hid (genI_take (turnF L) L 0 j _ hz)
      have HS1 := Lib.hid (show ((s + z : Nat) : Int) = sumI (L.take (j + 1)) by rw [sumI_step hz, ← hs.out]; omega)
      have HTF : Hid (∀ k : Nat, turnF L j k = (s : Int) + (z : Int) - 1 - (k : Int)) := Lib.hid (fun k => by rw [turnF, getD_some hz, ← hs.out])
      have HHZ := Lib.hid hz
      have HI := Lib.hid (fun u (hg : w.grownBy u none) => HA.out.grown hg (by simp))
      clear hc hz hz0 hz4 hs0 hsz hst hc7
      go_wp2_with fail
      go_loopw [4, 25] (fun u i wr => ∃ (k : Nat) (A4 : Option Addr) (c4 : Nat), k ≤ z ∧ i = .int .i64 k ∧ u = .slice A4 (s + k) c4 ∧ Hid (wr.ownsRow w.heap.size 3 1 (.slice A4 (s + k) c4) (s + k) ((genI (turnF L) 0 (L.take j) ++ (List.range k).map (turnF L j)).map (Value.int .i64))) ∧ Hid (w.grownBy wr none) ∧ Hid (wr.ownsRow (w.heap.size + 1) 3 1 (.slice (some ⟨b7, o7, none⟩) y c7) y ((startsI 0 L).map (Value.int .i64)) ∧ ∀ q, (Value.slice A4 (s + k) c4).ownBlock = some q → (Value.slice (some ⟨b7, o7, none⟩) y c7).ownBlock ≠ some q)) (fun _ i _ => z - (intOf i).toNat)
      case atStart => exact ⟨0, A3, c3, Nat.zero_le _, rfl, rfl, Lib.hid (by simpa using hown.out), hgr, Lib.hid ⟨hi7.out.1, fun q h => hi7.out.2 q h⟩⟩
      case round =>
        obtain ⟨k, A4, c4, hk, rfl, rfl, hown4, hgr4, hi74⟩ := hrel
        by_cases hlt2 : k < z
        · obtain ⟨b', off', hbe, _, hc'⟩ := HI.out _ hgr4.out (by have := HN.out; omega)
          cases hbe
          have hcell' := hc' j _ HHZ.out
          clear hc'
          have hB := hgr4.out.size
          obtain ⟨P, hP⟩ : ∃ P, genI (turnF L) 0 (L.take j) ++ (List.range k).map (turnF L j) = P := ⟨_, rfl⟩
          have HP2 : Hid (genI (turnF L) 0 (L.take j) ++ (List.range (k + 1)).map (turnF L j) = P ++ [(s : Int) + (z : Int) - 1 - (k : Int)]) := Lib.hid (by rw [gen_step, ← List.append_assoc, hP, HTF.out])
          rw [hP] at hown4
          clear hP
          obtain ⟨x, hx⟩ : ∃ x : Int, (s : Int) + (z : Int) - 1 - (k : Int) = x := ⟨_, rfl⟩
          rw [hx] at HP2
          have hnl : ∀ (i : Nat) (u : Value), ([.int .i64 x] : List Value)[i]? = some u → (wr.alloc (.cells #[.int .i64 x] 3)).cell? ((⟨wr.heap.size, 0, none⟩ : Addr).add i) = some u := cell_one_new _ _ _
          have HNL := Lib.hid hnl
          have hown2 := hown4.out.alloc (.cells #[.int .i64 x] 3)
          clear hnl
          go_wp2_with (at_builtin; refine wpList_append_own_at _ rfl _ _ 22 rfl w.heap.size 3 i0 (.int .i64 0) 1 8 Try.underlying22 hi0 hz0' hz1' hz2' rfl (by decide) _ _ _ rfl hown2 ⟨wr.heap.size, 0, none⟩ 1 1 [.int .i64 x] rfl rfl HNL.out ?c2 ?c3 ?c4 ?c5 ?_)
          case c2 => simp [Value.oneCell']
          case c3 => simp only [maxLen]; omega
          case c4 => omega
          case c5 => (try simp only [World.size_alloc]); omega
          intro v8 w8 hown8 hg8 _ hat8
          have hi8 : w8.ownsRow (w.heap.size + 1) 3 1 (.slice (some ⟨b7, o7, none⟩) y c7) y ((startsI 0 L).map (Value.int .i64)) ∧ ∀ q, v8.ownBlock = some q → (Value.slice (some ⟨b7, o7, none⟩) y c7).ownBlock ≠ some q := by
            have h7 := hi74.out.1.alloc (.cells #[.int .i64 x] 3)
            refine ⟨own_keep h7 (fun q hq => hg8.block q (h7.lt q hq).2 (fun e => hi74.out.2 q e.symm hq)), fun q h1 h2 => ?_⟩
            rcases hat8 with e | e
            · exact hi74.out.2 q (by rw [← e]; exact h1) h2
            · have h3 := (hi74.out.1.lt q h2).2
              rw [h1] at e
              simp at e
              omega
          obtain ⟨g8, o8, g8', c8, rfl⟩ := row_one hgr4.out (Nat.le_refl _) hown4.out hown8 hg8
          have HG8 := Lib.hid g8
          have HO8 := Lib.hid o8
          have HI8 := Lib.hid hi8
          clear hown8 hg8 g8 o8 hown2 hi8 hat8
          go_wp2_with fail
          go_roundw
          case rel => exact ⟨k + 1, some ⟨g8', 0, none⟩, c8, by omega, by go_num, rfl, Lib.hid (by rw [HP2.out]; exact HO8.out), HG8, HI8⟩
          case measure => simp [intOf]; omega
        · have hkz : k = z := by omega
          have HK := Lib.hid hkz
          clear hkz
          go_wp2_with fail
          go_roundw
          case rel => exact ⟨j + 1, s + k, A4, c4, by omega, by go_num, rfl, Lib.hid (by rw [HK.out]; exact HS1.out), Lib.hid (by rw [HST.out, Nat.zero_add, Int.toNat_natCast, ← HK.out]; exact hown4.out), hgr4, hi74⟩
          case measure => simp [intOf]; omega
    · have hjn : j = y := by omega
      have HJ := Lib.hid hjn
      clear hjn
      go_wp2_with fail
      go_ret2
      have e : L.take j = L := by rw [HJ.out, ← HN.out, List.take_length]
      have h3 := hown.out
      have h4 := hs.out
      rw [e] at h3 h4
      have e2 : (genI (turnF L) 0 L).length = s := by have := genI_len (turnF L) L 0 HOK.out; omega
      exact ⟨A3, c3, by rw [e2]; rfl, hgr.out, by rw [e2]; exact h3⟩

set_option maxHeartbeats 1000000 in
theorem sturn_any (A : Option Addr) (c : Nat) (L : List Int) (w : World) (hA : Ints w A L) (hn : L.length ≤ 1048576) :
    Calls Try.prog 28 #[.slice A L.length c] w (ListPostB (turnR L) (lensB L) w) := by
  cases hl : lensB L with
  | true =>
    have hr : turnR L = genI (turnF L) 0 L := by simp [turnR, hl]
    rw [hr]
    exact sturn_yes A c L w hA hl
  | false =>
    have hr : turnR L = [] := by simp [turnR, hl]
    have HS := Lib.hid (slens_any A c L (w.alloc (.cells #[] 3)) (hA.grown (World.grownBy_alloc _ _ none) (by simp)) hn)
    obtain ⟨n, hnn⟩ : ∃ n, L.length = n := ⟨_, rfl⟩
    rw [hl, hnn] at HS
    rw [hr, hnn]
    clear hA hn hnn hl hr
    go_enter Try.func28, Try.ntmps28
    go_wp2_with fail
    refine HS.out.mono ?_
    rintro e w1 ⟨rfl, rfl⟩
    go_wp2_with fail
    go_ret2
    exact ⟨_, 0, rfl, World.grownBy_alloc _ _ _, made_row w w.heap.size (Nat.le_refl _)⟩

set_option maxHeartbeats 1000000 in
theorem turn_any (v : Value) (L : List Int) (w : World) (hv : OwnI w v L) (hn : L.length ≤ 1048576) :
    Calls Try.prog 29 #[v] w (ListPostB (turnR L) (lensB L) w) := by
  cases hl : lensB L with
  | true =>
    have hr : turnR L = genI (turnF L) 0 L := by simp [turnR, hl]
    have HM := Lib.hid (turnmove_any v L w hv hl)
    obtain ⟨A, c, rfl, hA, _, _, _⟩ := hv.form
    have HS := Lib.hid (arelen_any A c L w hA hn)
    rw [hl] at HS
    rw [hr]
    obtain ⟨n, hnn⟩ : ∃ n, L.length = n := ⟨_, rfl⟩
    rw [hnn] at HS HM ⊢
    obtain ⟨zs, hzs⟩ : ∃ zs, genI (turnF L) 0 L = zs := ⟨_, rfl⟩
    rw [hzs] at HM ⊢
    clear hA hn hnn hl hr hv hzs
    go_enter Try.func29, Try.ntmps29
    go_wp2_with fail
    refine HS.out.mono ?_
    rintro e w1 ⟨rfl, rfl⟩
    go_wp2_with fail
    refine HM.out.mono ?_
    rintro e w1 ⟨A1, c1, rfl, hg, ho⟩
    have HP := Lib.hid (And.intro hg ho)
    clear hg ho
    go_wp2_with fail
    go_ret2
    exact ⟨A1, c1, rfl, HP.out.1, HP.out.2⟩
  | false =>
    have hr : turnR L = [] := by simp [turnR, hl]
    obtain ⟨A, c, rfl, hA, _, _, _⟩ := hv.form
    have HS := Lib.hid (arelen_any A c L w hA hn)
    obtain ⟨n, hnn⟩ : ∃ n, L.length = n := ⟨_, rfl⟩
    rw [hl, hnn] at HS
    rw [hr, hnn]
    clear hA hn hnn hl hr hv
    go_enter Try.func29, Try.ntmps29
    go_wp2_with fail
    refine HS.out.mono ?_
    rintro e w1 ⟨rfl, rfl⟩
    go_wp2_with fail
    go_ret2
    exact postB_no _ _ (gr_refl _ _)

theorem turnR_len {L : List Int} (hl : lensB L = true) : ((turnR L).length : Int) = sumI L := by
  rw [turnR, if_pos hl]
  exact genI_len (turnF L) L 0 (lensB_get hl).2.1
/-- Both at once: the same numbers. -/
theorem both_turn (L : List Int) (hn : L.length ≤ 1048576) : ∃ (zs : List Int) (b : Bool), zs.length ≤ 1048576 ∧
    (∀ v w, OwnI w v L → Calls Try.prog 28 #[v] w fun e w' => ∃ A c, e = .returned (.tuple #[.slice A zs.length c, .bool b]) ∧ w.grownBy w' none ∧ Ints w' A zs) ∧
    (∀ v w, OwnI w v L → Calls Try.prog 29 #[v] w fun e w' => ∃ A c, e = .returned (.tuple #[.slice A zs.length c, .bool b]) ∧ w.grownBy w' none ∧
      w'.ownsRow w.heap.size 3 1 (.slice A zs.length c) zs.length (zs.map (Value.int .i64))) := by
  refine ⟨turnR L, lensB L, ?_, fun v w h1 => ?_, fun v w h1 => ?_⟩
  · cases hl : lensB L with
    | true => have := turnR_len hl; have := (lensB_get hl).2.2.1; omega
    | false => simp [turnR, hl]
  · obtain ⟨A, c, rfl, hA, _, _, _⟩ := h1.form
    refine (sturn_any A c L w hA hn).mono ?_
    rintro e w' ⟨A, c, rfl, hg, ho⟩
    exact ⟨A, c, rfl, hg, Ints.of_own ho⟩
  · refine (turn_any v L w h1 hn).mono ?_
    rintro e w' ⟨A, c, rfl, hg, ho⟩
    exact ⟨A, c, rfl, hg, ho⟩

end Go.Proofs.Ytpakihjkjdanlaa
