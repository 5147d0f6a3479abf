/- What PackSegments of the model does. -/
import Derived.Test.YtpakihjkjdanlabPackI
import Derived.Test.YtpakihjkjdanlabSegS2
namespace Go.Proofs.Ytpakihjkjdanlab
open Go.RowKit

/-- Two rows of ints that are apart: one number more behind the one. -/
theorem pair_one {w0 w w1 : World} {B q n : Nat} {u v v' : Value} {xs : List Int} {us : List Value} {z : Int} {o : Obj} (h : w0.grownBy w none) (hB : w0.heap.size ≤ B) (ho : w.ownsRow B 3 1 v q (xs.map (Value.int .i64))) (hu : w.ownsRow B 3 1 u n us)
    (hap : ∀ g, v.ownBlock = some g → u.ownBlock ≠ some g) (ho' : w1.ownsRow B 3 1 v' (q + 1) (xs.map (Value.int .i64) ++ [.int .i64 z])) (hg : (w.alloc o).grownBy w1 v.ownBlock) (hat : v'.ownBlock = v.ownBlock ∨ v'.ownBlock = some (w.heap.size + 1)) :
    w0.grownBy w1 none ∧ w1.ownsRow B 3 1 v' (q + 1) ((xs ++ [z]).map (Value.int .i64)) ∧ w1.ownsRow B 3 1 u n us ∧ (∀ g, v'.ownBlock = some g → u.ownBlock ≠ some g) ∧ ∃ g c, v' = .slice (some ⟨g, 0, none⟩) (q + 1) c := by
  obtain ⟨h1, h2, h3⟩ := row_one h hB ho ho' hg
  refine ⟨h1, h2, ?_, ?_, h3⟩
  · refine own_keep hu (fun g hgu => ?_)
    have hlt := (hu.lt g hgu).2
    refine (hg.block g (by simp; omega) (fun e => hap g e.symm hgu)).trans (Below.heap_alloc w o g hlt)
  · intro g hgv hgu
    have hlt := (hu.lt g hgu).2
    rcases hat with e | e
    · exact hap g (by rw [← e]; exact hgv) hgu
    · rw [hgv] at e
      simp at e
      omega

theorem drop_take_at {F : List Int} {s z k : Nat} (hk : k < z) : ((F.drop s).take z)[k]? = F[s + k]? := by
  rw [List.getElem?_take, if_pos hk, List.getElem?_drop]

set_option maxHeartbeats 1000000 in
theorem spack_no (v u t : Value) (L D F : List Int) (w : World) (hv : OwnI w v L) (hu : OwnI w u D) (ht : OwnI w t F) (hn : L.length ≤ 1048576) (hm : D.length ≤ 1048576) (hf : F.length ≤ 1048576) (hb : packB L D F = false) :
    Calls Try.prog 32 #[v, u, t] w (PackPost [] [] false w) := by
  obtain ⟨A, c, rfl, hA, _, _, _⟩ := hv.form
  obtain ⟨B, d, rfl, hB, _, _, _⟩ := hu.form
  obtain ⟨C, f, rfl, hC, _, _, _⟩ := ht.form
  obtain ⟨W, hW⟩ : ∃ W, (w.alloc (.cells #[] 3)).alloc (.cells #[] 3) = W := ⟨_, rfl⟩
  have hg : w.grownBy W none := by rw [← hW]; exact (World.grownBy_alloc _ _ _).trans (World.grownBy_alloc _ _ _)
  have HP := Lib.hid (show PackPost [] [] false w (.returned (.tuple #[.slice (some ⟨w.heap.size, 0, none⟩) 0 0, .slice (some ⟨w.heap.size + 1, 0, none⟩) 0 0, .bool false])) W from by
    have r1 := made_row w w.heap.size (Nat.le_refl _)
    have r2 := made_row (w.alloc (.cells #[] 3)) w.heap.size (by simp)
    rw [World.size_alloc, hW] at r2
    refine ⟨_, 0, _, 0, rfl, hg, ?_, r2, fun g h1 h2 => ?_⟩
    · rw [← hW]
      exact own_keep r1 (fun k hk => Below.heap_alloc _ _ _ (r1.lt k hk).2)
    · simp [Value.ownBlock] at h1 h2
      omega)
  have HS := Lib.hid (ssegv_any A B c d L D W (hA.grown hg (by simp)) (hB.grown hg (by simp)) hn hm)
  have HS2 := Lib.hid (snums3_any C f F W (hC.grown hg (by simp)) hf)
  have HW := Lib.hid hW
  obtain ⟨n, hnn⟩ : ∃ n, L.length = n := ⟨_, rfl⟩
  obtain ⟨m, hmm⟩ : ∃ m, D.length = m := ⟨_, rfl⟩
  obtain ⟨q, hqq⟩ : ∃ q, F.length = q := ⟨_, rfl⟩
  cases h1 : segsB L D with
  | false =>
    rw [h1, hnn, hmm] at HS
    rw [hnn, hmm, hqq]
    clear hA hB hC hn hm hf hnn hmm hqq h1 hv hu ht hb hg hW
    go_enter Try.func32, Try.ntmps32
    go_wp2_with fail
    rw [HW.out]
    refine HS.out.mono ?_
    rintro e w1 ⟨rfl, rfl⟩
    go_wp2_with fail
    go_ret3
    exact HP.out
  | true =>
    obtain ⟨_, hs, _⟩ := segsB_get h1
    rw [h1, hnn, hmm] at HS
    by_cases he : q = m
    · have hk : okN 10006 F = false := by
        cases hk : okN 10006 F with
        | false => rfl
        | true =>
          have : segsB L F = true := by
            have h3 := (segsB_get h1).1
            simp [segsB, h3, hk]
            omega
          rw [packB, h1, this] at hb
          cases hb
      have hne : ((q : Int) != (m : Int)) = false := by simp [he]
      rw [hk, hqq] at HS2
      rw [hnn, hmm, hqq]
      clear hA hB hC hn hm hf hnn hmm hqq h1 hv hu ht hb hg hW hs he hk
      go_enter Try.func32, Try.ntmps32
      go_wp2_with fail
      rw [HW.out]
      refine HS.out.mono ?_
      rintro e w1 ⟨rfl, rfl⟩
      go_wp2_with fail
      refine HS2.out.mono ?_
      rintro e w1 ⟨rfl, rfl⟩
      go_wp2_with fail
      go_ret3
      exact HP.out
    · have hne : ((q : Int) != (m : Int)) = true := by rw [bne_iff_ne]; omega
      rw [hnn, hmm, hqq]
      clear hA hB hC hn hm hf hnn hmm hqq h1 hv hu ht hb hg hW hs he
      go_enter Try.func32, Try.ntmps32
      go_wp2_with fail
      rw [HW.out]
      refine HS.out.mono ?_
      rintro e w1 ⟨rfl, rfl⟩
      go_wp2_with fail
      go_ret3
      exact HP.out

set_option maxRecDepth 100000 in
set_option maxHeartbeats 8000000 in
theorem spack_yes (A B C : Option Addr) (c d f : Nat) (L D F : List Int) (w : World) (hA : Ints w A L) (hB : Ints w B D) (hC : Ints w C F) (hb : packB L D F = true) :
    Calls Try.prog 32 #[.slice A L.length c, .slice B D.length d, .slice C F.length f] w (PackPost ((cutI L F).map (fun l => l.foldl countF 0)) (packI D F) true w) := by
  obtain ⟨i0, hi0, hz0', hz1', hz2'⟩ := info_parts infoJ
  obtain ⟨h1, h2⟩ := packB_get hb
  obtain ⟨hl, hs1, hok1⟩ := segsB_get h1
  obtain ⟨_, hs2, hok2⟩ := segsB_get h2
  obtain ⟨hl4, hlok, hs4, _⟩ := lensB_get hl
  obtain ⟨W, hW⟩ : ∃ W, (w.alloc (.cells #[] 3)).alloc (.cells #[] 3) = W := ⟨_, rfl⟩
  have hg : w.grownBy W none := by rw [← hW]; exact (World.grownBy_alloc _ _ _).trans (World.grownBy_alloc _ _ _)
  have r1 : W.ownsRow w.heap.size 3 1 (.slice (some ⟨w.heap.size, 0, none⟩) 0 0) 0 [] := by
    rw [← hW]
    have := made_row w w.heap.size (Nat.le_refl _)
    exact own_keep this (fun k hk => Below.heap_alloc _ _ _ (this.lt k hk).2)
  have r2 : W.ownsRow w.heap.size 3 1 (.slice (some ⟨w.heap.size + 1, 0, none⟩) 0 0) 0 [] := by
    have := made_row (w.alloc (.cells #[] 3)) w.heap.size (by simp)
    rw [World.size_alloc, hW] at this
    exact this
  have HR1 := Lib.hid r1
  have HR2 := Lib.hid r2
  have HG := Lib.hid hg
  have HW := Lib.hid hW
  have HS := Lib.hid (ssegv_any A B c d L D W (hA.grown hg (by simp)) (hB.grown hg (by simp)) (by omega) (by omega))
  have HS2 := Lib.hid (snums3_any C f F W (hC.grown hg (by simp)) (by omega))
  have HA := Lib.hid hA
  have HB := Lib.hid hB
  have HC := Lib.hid hC
  have HLK := Lib.hid hlok
  have HSM := Lib.hid hs2
  have HCT := Lib.hid (fun j z h => cutI_at L F j z hlok h)
  have HCL := Lib.hid (cutI_len L F)
  obtain ⟨CT, hCT⟩ : ∃ CT, cutI L F = CT := ⟨_, rfl⟩
  rw [hCT] at HCT HCL ⊢
  obtain ⟨cs, hcs⟩ : ∃ cs, CT.map (fun l => l.foldl countF 0) = cs := ⟨_, rfl⟩
  have HCS := Lib.hid hcs
  have HCSL := Lib.hid (show cs.length = CT.length by rw [← hcs, List.length_map])
  rw [hcs]
  rw [h1] at HS
  rw [hok2] at HS2
  obtain ⟨n, hnn⟩ : ∃ n, L.length = n := ⟨_, rfl⟩
  obtain ⟨m, hmm⟩ : ∃ m, D.length = m := ⟨_, rfl⟩
  have hfm : F.length = m := by omega
  have HN := Lib.hid hnn
  have HM := Lib.hid hmm
  have HFM := Lib.hid hfm
  have hm4 : m ≤ 400 := by omega
  have hne : ((m : Int) != (m : Int)) = false := by simp
  rw [hnn] at hl4
  rw [hnn, hmm] at HS
  rw [hfm] at HS2
  rw [hnn, hmm, hfm]
  clear hA hB hC hb h1 h2 hl hs1 hs2 hok1 hok2 hlok hs4 hcs hCT hnn hmm hfm r1 r2 hg hW
  go_enter Try.func32, Try.ntmps32
  go_wp2_with fail
  rw [HW.out]
  refine HS.out.mono ?_
  rintro e w1 ⟨rfl, rfl⟩
  go_wp2_with fail
  refine HS2.out.mono ?_
  rintro e w1 ⟨rfl, rfl⟩
  go_wp2_with fail
  clear hne HS HS2
  go_loopw [9, 10, 11, 37] (fun u v a i wr => ∃ (j s q : Nat) (A3 A4 : Option Addr) (c3 c4 : Nat), j ≤ n ∧ i = .int .i64 j ∧ a = .int .i64 s ∧ u = .slice A3 j c3 ∧ v = .slice A4 q c4 ∧ q ≤ s ∧ s ≤ m ∧ Hid ((s : Int) = sumI (L.take j)) ∧ Hid (wr.ownsRow w.heap.size 3 1 (.slice A3 j c3) j ((cs.take j).map (Value.int .i64))) ∧ Hid (wr.ownsRow w.heap.size 3 1 (.slice A4 q c4) q ((packI (D.take s) (F.take s)).map (Value.int .i64))) ∧ Hid (∀ g, (Value.slice A4 q c4).ownBlock = some g → (Value.slice A3 j c3).ownBlock ≠ some g) ∧ Hid (w.grownBy wr none)) (fun _ _ _ i _ => n - (intOf i).toNat)
  case atStart => exact ⟨0, 0, 0, some ⟨w.heap.size, 0, none⟩, some ⟨w.heap.size + 1, 0, none⟩, 0, 0, Nat.zero_le _, rfl, rfl, rfl, rfl, Nat.le_refl _, Nat.zero_le _, Lib.hid rfl, HR1, HR2, Lib.hid (fun g h1 h2 => by simp [Value.ownBlock] at h1 h2; omega), HG⟩
  case round =>
    obtain ⟨j, s, q, A3, A4, c3, c4, hj, rfl, rfl, rfl, rfl, hqs, hsm, hs, hown, hkown, hap, hgr⟩ := hrel
    obtain ⟨wo, rfl⟩ : ∃ wo : World, wo = wr := ⟨_, rfl⟩
    by_cases hlt : j < n
    · obtain ⟨z0, hz⟩ : ∃ z, L[j]? = some z := ⟨_, List.getElem?_eq_getElem (by have := HN.out; omega)⟩
      obtain ⟨b, off, rfl, _, hc⟩ := HA.out.grown hgr.out (by simp) (by have := HN.out; omega)
      have hcell := hc j z0 hz
      obtain ⟨hz0, hz4, hs0, hsz⟩ := sumI_le HLK.out hz
      obtain ⟨z, rfl⟩ : ∃ z : Nat, z0 = (z : Int) := ⟨z0.toNat, by omega⟩
      have hszm : s + z ≤ m := by have := HSM.out; have := HFM.out; have := hs.out; omega
      have hz400 : z ≤ 400 := by omega
      have HS1 := Lib.hid (show ((s + z : Nat) : Int) = sumI (L.take (j + 1)) by rw [sumI_step hz, ← hs.out]; omega)
      have hct := HCT.out j _ hz
      rw [← hs.out, Int.toNat_natCast, Int.toNat_natCast] at hct
      obtain ⟨G, hG⟩ : ∃ G, (F.drop s).take z = G := ⟨_, rfl⟩
      rw [hG] at hct
      have HGA := Lib.hid (fun k (hk : k < z) => (show G[k]? = F[s + k]? by rw [← hG]; exact drop_take_at hk))
      have HGL := Lib.hid (show G.length = z by rw [← hG, List.length_take, List.length_drop]; have := HFM.out; omega)
      have hcj : cs[j]? = some (G.foldl countF 0) := by rw [← HCS.out, List.getElem?_map, hct]; rfl
      have HCJ := Lib.hid (at_take hcj)
      clear hc hz hz0 hz4 hs0 hsz hct hG hcj
      go_wp2_with fail
      go_loopw [10, 11, 14, 42] (fun v a cn i wr => ∃ (k q2 : Nat) (A5 : Option Addr) (c5 : Nat) (x : Int), k ≤ z ∧ i = .int .i64 k ∧ a = .int .i64 ((s + k : Nat) : Int) ∧ v = .slice A5 q2 c5 ∧ q2 ≤ s + k ∧ cn = .int .i64 x ∧ 0 ≤ x ∧ x ≤ k ∧ Hid (x = (G.take k).foldl countF 0) ∧ Hid (wr.ownsRow w.heap.size 3 1 (.slice A3 j c3) j ((cs.take j).map (Value.int .i64))) ∧ Hid (wr.ownsRow w.heap.size 3 1 (.slice A5 q2 c5) q2 ((packI (D.take (s + k)) (F.take (s + k))).map (Value.int .i64))) ∧ Hid (∀ g, (Value.slice A5 q2 c5).ownBlock = some g → (Value.slice A3 j c3).ownBlock ≠ some g) ∧ Hid (w.grownBy wr none)) (fun _ _ _ i _ => z - (intOf i).toNat)
      case atStart => exact ⟨0, q, A4, c4, 0, Nat.zero_le _, rfl, rfl, rfl, hqs, rfl, by omega, by omega, Lib.hid rfl, hown, hkown, hap, hgr⟩
      case round =>
        obtain ⟨k, q2, A5, c5, x, hk, rfl, rfl, rfl, hq2, rfl, hx0, hxk, hx, hown4, hkown4, hap4, hgr4⟩ := hrel
        obtain ⟨p, hp⟩ : ∃ p, s + k = p := ⟨_, rfl⟩
        have HP := Lib.hid hp
        by_cases hlt2 : k < z
        · have hpm : p < m := by omega
          rw [hp] at hq2 hkown4
          rw [hp]
          obtain ⟨x1, hx1⟩ : ∃ x, D[p]? = some x := ⟨_, List.getElem?_eq_getElem (by have := HM.out; omega)⟩
          obtain ⟨y, hy⟩ : ∃ y, F[p]? = some y := ⟨_, List.getElem?_eq_getElem (by have := HFM.out; omega)⟩
          obtain ⟨b5, off5, rfl, _, hc5⟩ := HB.out.grown hgr4.out (by simp) (by have := HM.out; omega)
          obtain ⟨b6, off6, rfl, _, hc6⟩ := HC.out.grown hgr4.out (by simp) (by have := HFM.out; omega)
          have hcell5 := hc5 p x1 hx1
          have hcell6 := hc6 p y hy
          have hst := packI_take D F p x1 y hx1 hy
          have hgk := HGA.out k hlt2
          rw [hp, hy] at hgk
          have hfs := fold_step (f := countF) (r := 0) hgk
          rw [← hx.out] at hfs
          obtain ⟨P, hP⟩ : ∃ P, packI (D.take p) (F.take p) = P := ⟨_, rfl⟩
          rw [hP] at hkown4 hst
          have HPS := Lib.hid (show s + (k + 1) = p + 1 by omega)
          have hqk : q2 + 1 ≤ s + (k + 1) := by omega
          clear hc5 hc6 hx1 hy hP hgk hp
          by_cases hy0 : y = 0
          · subst hy0
            rw [if_pos rfl, List.append_nil] at hst
            have HST := Lib.hid hst
            have HFS := Lib.hid (show x = (G.take (k + 1)).foldl countF 0 by rw [hfs]; simp [countF])
            clear hst hfs
            go_wp2_with fail
            go_roundw
            case rel => exact ⟨k + 1, q2, A5, c5, x, by omega, by go_num, by rw [HPS.out]; go_num, rfl, by omega, rfl, by omega, by omega, HFS, hown4, Lib.hid (by rw [HPS.out, HST.out]; exact hkown4.out), hap4, hgr4⟩
            case measure => simp [intOf]; omega
          · rw [if_neg hy0] at hst
            have HST := Lib.hid hst
            have HFS := Lib.hid (show x + 1 = (G.take (k + 1)).foldl countF 0 by rw [hfs]; simp [countF, hy0])
            have hy1 : (y != 0) = true := by simpa using hy0
            have hB := hgr4.out.size
            have hnl : ∀ (i : Nat) (u : Value), ([.int .i64 x1] : List Value)[i]? = some u → (wr.alloc (.cells #[.int .i64 x1] 3)).cell? ((⟨wr.heap.size, 0, none⟩ : Addr).add i) = some u := cell_one_new _ _ _
            have HNL := Lib.hid hnl
            have hown2 := hkown4.out.alloc (.cells #[.int .i64 x1] 3)
            clear hnl hst hy0 hfs
            go_wp2_with (at_builtin; refine wpList_append_own_at _ rfl _ _ 22 rfl w.heap.size 3 i0 (.int .i64 0) 1 8 Try.underlying22 hi0 hz0' hz1' hz2' rfl (by decide) _ _ _ rfl hown2 ⟨wr.heap.size, 0, none⟩ 1 1 [.int .i64 x1] rfl rfl HNL.out ?c2 ?c3 ?c4 ?c5 ?_)
            case c2 => simp [Value.oneCell']
            case c3 => simp only [maxLen]; omega
            case c4 => omega
            case c5 => (try simp only [World.size_alloc]); omega
            intro v8 w8 hown8 hg8 _ hat8
            obtain ⟨g8, o8, u8, p8, g8', c8, rfl⟩ := pair_one hgr4.out (Nat.le_refl _) hkown4.out hown4.out hap4.out hown8 hg8 hat8
            have HG8 := Lib.hid g8
            have HO8 := Lib.hid o8
            have HU8 := Lib.hid u8
            have HP8 := Lib.hid p8
            clear hown8 hg8 g8 o8 hown2 u8 p8 hat8
            go_wp2_with fail
            go_roundw
            case rel => exact ⟨k + 1, q2 + 1, some ⟨g8', 0, none⟩, c8, x + 1, by omega, by go_num, by rw [HPS.out]; go_num, rfl, by omega, rfl, by omega, by omega, HFS, HU8, Lib.hid (by rw [HPS.out, HST.out]; exact HO8.out), HP8, HG8⟩
            case measure => simp [intOf]; omega
        · have hkz : k = z := by omega
          have HK := Lib.hid hkz
          have HX : Hid (x = G.foldl countF 0) := Lib.hid (by rw [hx.out, hkz, ← HGL.out, List.take_length])
          have hB := hgr4.out.size
          have hx4 : x ≤ 1048576 := by omega
          have hnl : ∀ (i : Nat) (u : Value), ([.int .i64 x] : List Value)[i]? = some u → (wr.alloc (.cells #[.int .i64 x] 3)).cell? ((⟨wr.heap.size, 0, none⟩ : Addr).add i) = some u := cell_one_new _ _ _
          have HNL := Lib.hid hnl
          have hown2 := hown4.out.alloc (.cells #[.int .i64 x] 3)
          clear hnl hkz hp
          go_wp2_with (at_builtin; refine wpList_append_own_at _ rfl _ _ 22 rfl w.heap.size 3 i0 (.int .i64 0) 1 8 Try.underlying22 hi0 hz0' hz1' hz2' rfl (by decide) _ _ _ rfl hown2 ⟨wr.heap.size, 0, none⟩ 1 1 [.int .i64 x] rfl rfl HNL.out ?d2 ?d3 ?d4 ?d5 ?_)
          case d2 => simp [Value.oneCell']
          case d3 => simp only [maxLen]; omega
          case d4 => omega
          case d5 => (try simp only [World.size_alloc]); omega
          intro v8 w8 hown8 hg8 _ hat8
          rw [← List.map_take] at hown8
          obtain ⟨g8, o8, u8, p8, g8', c8, rfl⟩ := pair_one hgr4.out (Nat.le_refl _) hown4.out hkown4.out (fun g h1 h2 => hap4.out g h2 h1) hown8 hg8 hat8
          have HG8 := Lib.hid g8
          have HO8 := Lib.hid o8
          have HU8 := Lib.hid u8
          have HP8 := Lib.hid p8
          clear hown8 hg8 g8 o8 hown2 u8 p8 hat8
          go_wp2_with fail
          go_roundw
          case rel => exact ⟨j + 1, s + k, q2, some ⟨g8', 0, none⟩, A5, c8, c5, by omega, by go_num, rfl, rfl, rfl, by omega, by omega, Lib.hid (by rw [HK.out]; exact HS1.out), Lib.hid (by rw [HCJ.out, ← HX.out]; exact HO8.out), HU8, Lib.hid (fun g h1 h2 => HP8.out g h2 h1), HG8⟩
          case measure => simp [intOf]; omega
    · have hjn : j = n := by omega
      have HJ := Lib.hid hjn
      clear hjn
      go_wp2_with fail
      go_ret3
      have e : L.take j = L := by rw [HJ.out, ← HN.out, List.take_length]
      have h4 := hs.out
      rw [e, ← HSM.out] at h4
      have e1 : s = F.length := by omega
      have e0 : s = D.length := by have := HM.out; have := HFM.out; omega
      have h3 := hkown.out
      rw [show D.take s = D from by rw [e0, List.take_length], show F.take s = F from by rw [e1, List.take_length]] at h3
      have e3 : (packI D F).length = q := by have := h3.1; rw [List.length_map] at this; omega
      have e5 : cs.length = j := by have := HCSL.out; have := HCL.out; have := HN.out; have := HJ.out; omega
      have h5 := hown.out
      rw [List.take_of_length_le (by omega)] at h5
      refine ⟨A3, c3, A4, c4, by rw [e3, e5]; rfl, hgr.out, by rw [e5]; exact h5, by rw [e3]; exact h3, fun g hg1 hg2 => ?_⟩
      rw [e5] at hg1
      rw [e3] at hg2
      exact hap.out g hg2 hg1

theorem spack_spec (v u t : Value) (L D F : List Int) (w : World) (hv : OwnI w v L) (hu : OwnI w u D) (ht : OwnI w t F) (hn : L.length ≤ 1048576) (hm : D.length ≤ 1048576) (hf : F.length ≤ 1048576) :
    Calls Try.prog 32 #[v, u, t] w (PackPost (packC L D F) (packR L D F) (packB L D F) w) := by
  cases hb : packB L D F with
  | false =>
    have hr : packR L D F = [] := by simp [packR, hb]
    have hc : packC L D F = [] := by simp [packC, hb]
    rw [hr, hc]
    exact spack_no v u t L D F w hv hu ht hn hm hf hb
  | true =>
    have hr : packR L D F = packI D F := by simp [packR, hb]
    have hc : packC L D F = (cutI L F).map (fun l => l.foldl countF 0) := by simp [packC, hb]
    rw [hr, hc]
    obtain ⟨A, c, rfl, hA, _, _, _⟩ := hv.form
    obtain ⟨B, d, rfl, hB, _, _, _⟩ := hu.form
    obtain ⟨C, f, rfl, hC, _, _, _⟩ := ht.form
    exact spack_yes A B C c d f L D F w hA hB hC hb

/-- Both at once: the same numbers. -/
theorem both_pack (L D F : List Int) (hn : L.length ≤ 1048576) (hm : D.length ≤ 1048576) (hf : F.length ≤ 1048576) : ∃ (cs ks : List Int) (b : Bool), cs.length ≤ 1048576 ∧ ks.length ≤ 1048576 ∧
    (∀ v u t w, OwnI w v L → OwnI w u D → OwnI w t F → Calls Try.prog 32 #[v, u, t] w fun e w' => ∃ A c A2 c2, e = .returned (.tuple #[.slice A cs.length c, .slice A2 ks.length c2, .bool b]) ∧ w.grownBy w' none ∧ Ints w' A cs ∧ Ints w' A2 ks) ∧
    (∀ v u t w, OwnI w v L → OwnI w u D → OwnI w t F → Calls Try.prog 33 #[v, u, t] w fun e w' => ∃ A c A2 c2, e = .returned (.tuple #[.slice A cs.length c, .slice A2 ks.length c2, .bool b]) ∧ w.grownBy w' none ∧
      w'.ownsRow w.heap.size 3 1 (.slice A cs.length c) cs.length (cs.map (Value.int .i64)) ∧ w'.ownsRow w.heap.size 3 1 (.slice A2 ks.length c2) ks.length (ks.map (Value.int .i64)) ∧
      ∀ g, (Value.slice A cs.length c).ownBlock = some g → (Value.slice A2 ks.length c2).ownBlock ≠ some g) := by
  refine ⟨packC L D F, packR L D F, packB L D F, ?_, ?_, fun v u t w h1 h2 h3 => (spack_spec v u t L D F w h1 h2 h3 hn hm hf).mono ?_, fun v u t w h1 h2 h3 => (pack_impl v u t L D F w h1 h2 h3 hn hm hf).mono ?_⟩
  · unfold packC
    split
    · rw [List.length_map, cutI_len]; exact hn
    · simp
  · unfold packR
    split
    · exact Nat.le_trans (packI_le D F) hm
    · simp
  · rintro e w' ⟨A, c, A2, c2, rfl, hg, ho, ho2, _⟩
    exact ⟨A, c, A2, c2, rfl, hg, Ints.of_own ho, Ints.of_own ho2⟩
  · rintro e w' ⟨A, c, A2, c2, rfl, hg, ho, ho2, hap⟩
    exact ⟨A, c, A2, c2, rfl, hg, ho, ho2, hap⟩

end Go.Proofs.Ytpakihjkjdanlab
