/- What the model's l3Most does. -/
import Derived.Test.YtpakihjkjdanlabSegSum
namespace Go.Proofs.Ytpakihjkjdanlab
open Go.RowKit

set_option maxRecDepth 100000 in
set_option maxHeartbeats 2000000 in
theorem smost_any (A B : Option Addr) (c d : Nat) (L D : List Int) (w : World) (hA : Ints w A L) (hB : OwnI w (.slice B D.length d) D) (hs : segsB L D = true) :
    Calls Try.prog 61 #[.slice A L.length c, .slice B D.length d] w (ListPost ((cutI L D).map fun l => l.foldl mostF 0) w) := by
  obtain ⟨i0, hi0, hz0', hz1', hz2'⟩ := info_parts infoJ
  obtain ⟨hl, hsum, hok⟩ := segsB_get hs
  obtain ⟨hl4, _, hs4, _⟩ := lensB_get hl
  have HC := Lib.hid (fun u (hg : w.grownBy u none) => scut_any A B c d L D u (hA.grown hg (by simp)) (hB.grown0 hg) hl hsum)
  have HIN := Lib.hid (fun j seg h => cutI_in L D j seg hok h)
  have HLEN := Lib.hid (cutI_len L D)
  have HDL := Lib.hid (show D.length ≤ 400 by omega)
  obtain ⟨LL, hLL⟩ : ∃ LL, cutI L D = LL := ⟨_, rfl⟩
  rw [hLL] at HC HIN HLEN ⊢
  obtain ⟨res, hres⟩ : ∃ res, LL.map (fun l => l.foldl mostF 0) = res := ⟨_, rfl⟩
  have HRES := Lib.hid hres
  have HRL := Lib.hid (show res.length = LL.length by rw [← hres, List.length_map])
  rw [hres]
  obtain ⟨n, hnn⟩ : ∃ n, L.length = n := ⟨_, rfl⟩
  obtain ⟨m, hmm⟩ : ∃ m, D.length = m := ⟨_, rfl⟩
  obtain ⟨p, hpp⟩ : ∃ p, LL.length = p := ⟨_, rfl⟩
  have hp4 : p ≤ 400 := by have := HLEN.out; omega
  have HP := Lib.hid hpp
  rw [hnn, hmm] at HC ⊢
  have HBD : Hid (OwnI w (.slice B m d) D) := Lib.hid (by rw [← hmm]; exact hB)
  clear hA hB hs hl hsum hok hl4 hs4 hLL hres hnn hmm hpp
  go_enter Try.func61, Try.ntmps61
  go_wp2_with fail
  refine (HC.out _ (World.grownBy_alloc _ _ _)).mono ?_
  rintro e w1 ⟨A1, c1, vs, rfl, hg1, hr1, hs1⟩
  rw [HP.out] at hr1 hs1
  rw [HP.out]
  have HG1 := Lib.hid ((World.grownBy_alloc w (.cells #[] 3) none).trans hg1)
  have HR1 := Lib.hid hr1
  have HS1 := Lib.hid (hs1 w HBD.out)
  have hro := made_row w w.heap.size (Nat.le_refl _)
  have HRO := Lib.hid (own_keep hro (fun g hg => hg1.block g (hro.lt g hg).2 (by simp)))
  clear hg1 hr1 hro hs1
  go_wp2_with fail
  go_loopw [5, 16] (fun u i wr => ∃ (j : Nat) (A3 : Option Addr) (c3 : Nat), j ≤ p ∧ i = .int .i64 j ∧ u = .slice A3 j c3 ∧ Hid (wr.ownsRow w.heap.size 3 1 (.slice A3 j c3) j ((res.take j).map (Value.int .i64))) ∧ Hid (w.grownBy wr none) ∧ Hid (wr.ownsRow (w.alloc (.cells #[] 3)).heap.size 22 1 (.slice A1 p c1) p vs)) (fun _ i _ => p - (intOf i).toNat)
  case atStart => exact ⟨0, some ⟨w.heap.size, 0, none⟩, 0, Nat.zero_le _, rfl, rfl, HRO, HG1, HR1⟩
  case round =>
    obtain ⟨j, A3, c3, hj, rfl, rfl, hown, hgr, hrw⟩ := hrel
    obtain ⟨wo, rfl⟩ : ∃ wo : World, wo = wr := ⟨_, rfl⟩
    by_cases hlt : j < p
    · obtain ⟨seg, hseg⟩ : ∃ seg, LL[j]? = some seg := ⟨_, List.getElem?_eq_getElem (by have := HP.out; omega)⟩
      obtain ⟨B2, c2, hvs, hcl, hiw⟩ := HS1.out j seg hlt hseg
      have hi : Ints wo B2 seg := hiw.grown hgr.out (by simp)
      obtain ⟨b, rfl⟩ : ∃ b, A1 = some ⟨b, 0, none⟩ := by
        rcases hrw.out.2 with ⟨hv, hn0⟩ | ⟨g, cap, cur, hv, _⟩
        · omega
        · cases hv; exact ⟨g, rfl⟩
      have hcell : wo.cell? ⟨b, j, none⟩ = some (.slice B2 seg.length c2) := (hrw.out.cellAt j (by omega)).trans hvs
      obtain ⟨hsok, hsl⟩ := HIN.out j seg hseg
      have HI := Lib.hid hi
      have HSOK := Lib.hid hsok
      obtain ⟨q, hq⟩ : ∃ q, seg.length = q := ⟨_, rfl⟩
      have HQ := Lib.hid hq
      have hq4 : q ≤ 400 := by have := HDL.out; omega
      rw [hq] at hcell hcl
      have hry : res[j]? = some (seg.foldl mostF 0) := by rw [← HRES.out, List.getElem?_map, hseg]; rfl
      have HRY := Lib.hid (at_take hry)
      clear hseg hi hsok hsl hq hry hvs hiw
      go_wp2_with fail
      go_loop [8, 22] (fun u i => ∃ (k : Nat) (x : Int), k ≤ q ∧ i = .int .i64 k ∧ u = .int .i64 x ∧ 0 ≤ x ∧ x ≤ 10006 ∧ Hid (x = (seg.take k).foldl mostF 0)) (fun _ i => q - (intOf i).toNat)
      case atStart => exact ⟨0, 0, Nat.zero_le _, rfl, rfl, by omega, by omega, Lib.hid rfl⟩
      case round =>
        obtain ⟨k, x, hk, rfl, rfl, hx0, hx1, hx⟩ := hrel
        by_cases hlt2 : k < q
        · obtain ⟨z, hz⟩ : ∃ z, seg[k]? = some z := ⟨_, List.getElem?_eq_getElem (by have := HQ.out; omega)⟩
          obtain ⟨b3, off3, rfl, _, hc3⟩ := HI.out (by have := HQ.out; omega)
          have hcell3 := hc3 k z hz
          obtain ⟨hz0, hz1⟩ := okN_at hz HSOK.out
          have HST := Lib.hid (fold_step (f := mostF) (r := 0) hz)
          clear hc3 hz
          go_wp2_with fail
          all_goals
            go_round
            case rel => exact ⟨k + 1, mostF x z, by omega, by go_num, congrArg (Value.int .i64) (by unfold mostF; omega), by unfold mostF; omega, by unfold mostF; omega, Lib.hid (by rw [HST.out, ← hx.out])⟩
            case measure => simp [intOf]; omega
        · have hkq : k = q := by omega
          have HX : Hid (x = seg.foldl mostF 0) := Lib.hid (by rw [hx.out, hkq, ← HQ.out, List.take_length])
          have hB := hgr.out.size
          have hnl : ∀ (i : Nat) (u : Value), ([.int .i64 x] : List Value)[i]? = some u → (wo.alloc (.cells #[.int .i64 x] 3)).cell? ((⟨wo.heap.size, 0, none⟩ : Addr).add i) = some u := cell_one_new _ _ _
          have HNL := Lib.hid hnl
          have hown2 := hown.out.alloc (.cells #[.int .i64 x] 3)
          clear hnl hkq
          go_wp2_with (at_builtin; refine wpList_append_own_at _ rfl _ _ 22 rfl w.heap.size 3 i0 (.int .i64 0) 1 8 Try.underlying22 hi0 hz0' hz1' hz2' rfl (by decide) _ _ _ rfl hown2 ⟨wo.heap.size, 0, none⟩ 1 1 [.int .i64 x] rfl rfl HNL.out ?c2 ?c3 ?c4 ?c5 ?_)
          case c2 => simp [Value.oneCell']
          case c3 => simp only [maxLen]; omega
          case c4 => omega
          case c5 => (try simp only [World.size_alloc]); omega
          intro v8 w8 hown8 hg8 _ _
          rw [← List.map_take] at hown8
          have HR8 := Lib.hid (own_aside3 (hrw.out.alloc (.cells #[.int .i64 x] 3)) hown2 (by decide) hg8)
          obtain ⟨g8, o8, g8', c8, rfl⟩ := row_one hgr.out (Nat.le_refl _) hown.out hown8 hg8
          have HG8 := Lib.hid g8
          have HO8 := Lib.hid o8
          clear hown8 hg8 g8 o8 hown2
          go_wp2_with fail
          go_roundw
          case rel => exact ⟨j + 1, some ⟨g8', 0, none⟩, c8, by omega, by go_num, rfl, Lib.hid (by rw [HRY.out, ← HX.out]; exact HO8.out), HG8, HR8⟩
          case measure => simp [intOf]; omega
    · have hjn : j = p := by omega
      have HJ := Lib.hid hjn
      clear hjn
      go_wp2_with fail
      go_ret
      have e2 : res.length = j := by have := HRL.out; have := HP.out; have := HJ.out; omega
      have h3 := hown.out
      rw [List.take_of_length_le (by omega)] at h3
      refine ⟨A3, c3, by rw [e2]; rfl, hgr.out, by rw [e2]; exact h3⟩

end Go.Proofs.Ytpakihjkjdanlab
