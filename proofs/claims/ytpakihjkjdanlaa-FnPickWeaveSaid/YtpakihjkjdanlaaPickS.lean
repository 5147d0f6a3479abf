/- What PickSegments of the model does. -/
import Derived.Test.YtpakihjkjdanlaaAppL
import Derived.Test.YtpakihjkjdanlaaGathL
namespace Go.Proofs.Ytpakihjkjdanlaa
open Go.RowKit

/-- Are these the indices of segments that are not too much together? -/
def pickB (L D At : List Int) : Bool := segsB L D && (idxB L.length At && lensB (pickI L At))
def pickP (L D At : List Int) : List Int := (pickL (cutI L D) At).flatten
def pickC (L D At : List Int) : List Int := if pickB L D At = true then pickI L At else []
def pickR (L D At : List Int) : List Int := if pickB L D At = true then pickP L D At else []
theorem pickB_get {L D At : List Int} (h : pickB L D At = true) : segsB L D = true ∧ idxB L.length At = true ∧ lensB (pickI L At) = true := by
  simpa [pickB] using h
/-- A segment is as long as its length says. -/
theorem seg_at {L D : List Int} (hok : okN 400 L = true) (hs : (D.length : Int) = sumI L) {j : Nat} {z : Int} (hz : L[j]? = some z) : ∃ M, (cutI L D)[j]? = some M ∧ (M.length : Int) = z := by
  obtain ⟨h0, _, hs0, hsz⟩ := sumI_le hok hz
  refine ⟨_, cutI_at L D j z hok hz, ?_⟩
  rw [List.length_take, List.length_drop]
  omega
theorem okN_allP {hi : Int} : ∀ {l : List Int}, (∀ z ∈ l, 0 ≤ z ∧ z ≤ hi) → okN hi l = true
  | [], _ => rfl
  | z :: l, h => by
    have h1 := h z (by simp)
    simp [okN, h1.1, h1.2, okN_allP (l := l) (fun y hy => h y (by simp [hy]))]
theorem pickI_ok {L At : List Int} (hok : okN 400 L = true) (hm : ∀ x ∈ At, 0 ≤ x ∧ x < (L.length : Int)) : okN 400 (pickI L At) = true := by
  refine okN_allP (fun z hz => ?_)
  obtain ⟨x, hx, rfl⟩ := List.mem_map.1 hz
  obtain ⟨h0, h1⟩ := hm x hx
  have hg : L[x.toNat]? = some (L.getD x.toNat 0) := by
    rw [List.getD_eq_getElem?_getD, List.getElem?_eq_getElem (by omega)]
    rfl
  have := okN_at hg hok
  exact ⟨this.1, this.2⟩
theorem pick_step {L D At : List Int} (hok : okN 400 L = true) (hs : (D.length : Int) = sumI L) (hm : ∀ x ∈ At, 0 ≤ x ∧ x < (L.length : Int)) {j : Nat} {x : Int} (hx : At[j]? = some x) :
    ∃ z M, L[x.toNat]? = some z ∧ (cutI L D)[x.toNat]? = some M ∧ (M.length : Int) = z ∧ pickI L (At.take (j + 1)) = pickI L (At.take j) ++ [z] ∧ pickP L D (At.take (j + 1)) = pickP L D (At.take j) ++ M ∧ (pickL (cutI L D) At)[j]? = some M := by
  obtain ⟨h0, h1⟩ := hm x (List.mem_of_getElem? hx)
  obtain ⟨z, hz⟩ : ∃ z, L[x.toNat]? = some z := ⟨_, List.getElem?_eq_getElem (by omega)⟩
  obtain ⟨M, hM, hl⟩ := seg_at hok hs hz
  refine ⟨z, M, hz, hM, hl, ?_, ?_, ?_⟩
  · rw [at_take hx, pickI, pickI, List.map_append]
    congr 1
    simp [hz]
  · rw [at_take hx, pickP, pickP, pickL, pickL, List.map_append, List.flatten_append]
    congr 1
    simp [hM]
  · simp [pickL, hx, hM]
theorem pick_sum {L D At : List Int} (hok : okN 400 L = true) (hs : (D.length : Int) = sumI L) (hm : ∀ x ∈ At, 0 ≤ x ∧ x < (L.length : Int)) : ∀ j, j ≤ At.length → ((pickP L D (At.take j)).length : Int) = sumI (pickI L (At.take j))
  | 0, _ => by simp [pickP, pickL, pickI, sumI]
  | j + 1, hj => by
    obtain ⟨x, hx⟩ : ∃ x, At[j]? = some x := ⟨_, List.getElem?_eq_getElem (by omega)⟩
    obtain ⟨z, M, _, _, hl, h1, h2, _⟩ := pick_step hok hs hm hx
    rw [h1, h2, List.length_append, sumI_append]
    have := pick_sum hok hs hm j (by omega)
    simp only [sumI]
    omega
theorem pick_takes {L At : List Int} (hok : okN 400 L = true) (hm : ∀ x ∈ At, 0 ≤ x ∧ x < (L.length : Int)) (j : Nat) : sumI (pickI L (At.take j)) ≤ sumI (pickI L At) := by
  have h1 : pickI L At = pickI L (At.take j) ++ pickI L (At.drop j) := by rw [pickI, pickI, pickI, ← List.map_append, List.take_append_drop]
  have h2 := (sumI_bound (pickI_ok hok (fun x hx => hm x (List.mem_of_mem_drop hx)) (At := At.drop j))).1
  rw [h1, sumI_append]
  omega

/-- Two new rows of ints, apart from each other. -/
def PckPost (cs ks : List Int) (b : Bool) (w : World) (e : Ending) (w' : World) : Prop :=
  ∃ A c A2 c2, e = .returned (.tuple #[.slice A cs.length c, .slice A2 ks.length c2, .bool b]) ∧ w.grownBy w' none ∧ w'.ownsRow w.heap.size 3 1 (.slice A cs.length c) cs.length (cs.map (Value.int .i64)) ∧
    w'.ownsRow w.heap.size 3 1 (.slice A2 ks.length c2) ks.length (ks.map (Value.int .i64)) ∧ ∀ g, (Value.slice A cs.length c).ownBlock = some g → (Value.slice A2 ks.length c2).ownBlock ≠ some g
theorem pickPost_made (w W : World) (hg : w.grownBy W none) : PckPost [] [] false w (.returned (.tuple #[.slice (some ⟨W.heap.size, 0, none⟩) 0 0, .slice (some ⟨W.heap.size + 1, 0, none⟩) 0 0, .bool false])) ((W.alloc (.cells #[] 3)).alloc (.cells #[] 3)) := by
  have r1 := made_row W w.heap.size hg.size
  have r2 := made_row (W.alloc (.cells #[] 3)) w.heap.size (by have := hg.size; simp; omega)
  rw [World.size_alloc] at r2
  refine ⟨_, 0, _, 0, rfl, (hg.trans (World.grownBy_alloc _ _ _)).trans (World.grownBy_alloc _ _ _), own_keep r1 (fun k hk => Below.heap_alloc _ _ _ (r1.lt k hk).2), r2, fun g h1 h2 => ?_⟩
  simp [Value.ownBlock] at h1 h2
  omega

set_option maxHeartbeats 2000000 in
theorem spick_no (v u t : Value) (L D F : List Int) (w : World) (hv : OwnI w v L) (hu : OwnI w u D) (ht : OwnI w t F) (hn : L.length ≤ 1048576) (hm : D.length ≤ 1048576) (hf : F.length ≤ 1048576) (hb : segsB L D = false ∨ idxB L.length F = false) :
    Calls Try.prog 32 #[v, u, t] w (PckPost [] [] false w) := by
  obtain ⟨A, c, rfl, hA, _, _, _⟩ := hv.form
  obtain ⟨B, d, rfl, hB, _, _, _⟩ := hu.form
  obtain ⟨C, f, rfl, hC, _, _, _⟩ := ht.form
  have HP := Lib.hid (pickPost_made w w (gr_refl _ _))
  obtain ⟨W, hW⟩ : ∃ W, (w.alloc (.cells #[] 3)).alloc (.cells #[] 3) = W := ⟨_, rfl⟩
  rw [hW] at HP
  have hg : w.grownBy W none := by rw [← hW]; exact (World.grownBy_alloc _ _ _).trans (World.grownBy_alloc _ _ _)
  have HS := Lib.hid (ssegv_any A B c d L D W (hA.grown hg (by simp)) (hB.grown hg (by simp)) hn hm)
  have HS2 := Lib.hid (sidx_any C f L.length F W (hC.grown hg (by simp)) hf hn)
  have HW := Lib.hid hW
  obtain ⟨n, hnn⟩ : ∃ n, L.length = n := ⟨_, rfl⟩
  obtain ⟨m, hmm⟩ : ∃ m, D.length = m := ⟨_, rfl⟩
  obtain ⟨q, hqq⟩ : ∃ q, F.length = q := ⟨_, rfl⟩
  cases h1 : segsB L D with
  | false =>
    rw [h1, hnn, hmm] at HS
    rw [hnn, hmm, hqq]
    clear hA hB hC hn hm hf hnn hmm hqq h1 hv hu ht hb hg hW HS2
    go_enter Try.func32, Try.ntmps32
    go_wp2_with fail
    rw [HW.out]
    refine HS.out.mono ?_
    rintro e w1 ⟨rfl, rfl⟩
    go_wp2_with fail
    go_ret3
    exact HP.out
  | true =>
    have h2 : idxB L.length F = false := by
      rcases hb with h | h
      · rw [h1] at h; cases h
      · exact h
    rw [h2, hnn, hqq] at HS2
    rw [h1, hnn, hmm] at HS
    rw [hnn, hmm, hqq]
    clear hA hB hC hn hm hf hnn hmm hqq h1 hv hu ht hb hg hW h2
    go_enter Try.func32, Try.ntmps32
    go_wp2_with fail
    rw [HW.out]
    refine HS.out.mono ?_
    rintro e w1 ⟨rfl, rfl⟩
    go_wp2_with fail
    refine HS2.out.mono ?_
    rintro e w1 ⟨rfl, rfl⟩
    go_wp2_with fail
    go_ret3
    exact HP.out

/-- Two rows of ints that are apart: one number more behind the one. -/
theorem pair_oneP {w0 w w1 : World} {B q n : Nat} {u v v' : Value} {xs : List Int} {us : List Value} {z : Int} {o : Obj} (h : w0.grownBy w none) (hB : w0.heap.size ≤ B) (ho : w.ownsRow B 3 1 v q (xs.map (Value.int .i64))) (hu : w.ownsRow B 3 1 u n us)
    (hap : ∀ g, v.ownBlock = some g → u.ownBlock ≠ some g) (ho' : w1.ownsRow B 3 1 v' (q + 1) (xs.map (Value.int .i64) ++ [.int .i64 z])) (hg : (w.alloc o).grownBy w1 v.ownBlock) (hat : v'.ownBlock = v.ownBlock ∨ v'.ownBlock = some (w.heap.size + 1)) :
    w0.grownBy w1 none ∧ w1.ownsRow B 3 1 v' (q + 1) ((xs ++ [z]).map (Value.int .i64)) ∧ w1.ownsRow B 3 1 u n us ∧ (∀ g, v'.ownBlock = some g → u.ownBlock ≠ some g) ∧ ∃ g c, v' = .slice (some ⟨g, 0, none⟩) (q + 1) c := by
  obtain ⟨h1, h2, h3⟩ := row_one h hB ho ho' hg
  refine ⟨h1, h2, ?_, ?_, h3⟩
  · refine own_keep hu (fun g hgu => ?_)
    have hlt := (hu.lt g hgu).2
    refine (hg.block g (by simp; omega) (fun e => hap g e.symm hgu)).trans (Below.heap_alloc w o g hlt)
  · intro g hgv hgu
    have hlt := (hu.lt g hgu).2
    rcases hat with e | e
    · exact hap g (by rw [← e]; exact hgv) hgu
    · rw [hgv] at e
      simp at e
      omega

set_option maxRecDepth 100000 in
set_option maxHeartbeats 8000000 in
theorem spick_yes (v u t : Value) (L D F : List Int) (w : World) (hv : OwnI w v L) (hu : OwnI w u D) (ht : OwnI w t F) (hb : segsB L D = true) (hb2 : idxB L.length F = true) :
    Calls Try.prog 32 #[v, u, t] w (PckPost (pickC L D F) (pickR L D F) (pickB L D F) w) := by
  obtain ⟨i0, hi0, hz0', hz1', hz2'⟩ := info_parts infoJ
  obtain ⟨hl, hs1, hok1⟩ := segsB_get hb
  obtain ⟨hl4, hlok, hs4, _⟩ := lensB_get hl
  obtain ⟨hf4, _, hmem⟩ := idxB_get hb2
  obtain ⟨A, c, rfl, hA, _, _, _⟩ := hv.form
  obtain ⟨B, d, rfl, hB, _, _, _⟩ := hu.form
  obtain ⟨C, f, rfl, hC, _, _, _⟩ := ht.form
  obtain ⟨W, hW⟩ : ∃ W, (w.alloc (.cells #[] 3)).alloc (.cells #[] 3) = W := ⟨_, rfl⟩
  have hg : w.grownBy W none := by rw [← hW]; exact (World.grownBy_alloc _ _ _).trans (World.grownBy_alloc _ _ _)
  have r1 : W.ownsRow w.heap.size 3 1 (.slice (some ⟨w.heap.size, 0, none⟩) 0 0) 0 [] := by
    rw [← hW]
    have := made_row w w.heap.size (Nat.le_refl _)
    exact own_keep this (fun k hk => Below.heap_alloc _ _ _ (this.lt k hk).2)
  have r2 : W.ownsRow w.heap.size 3 1 (.slice (some ⟨w.heap.size + 1, 0, none⟩) 0 0) 0 [] := by
    have := made_row (w.alloc (.cells #[] 3)) w.heap.size (by simp)
    rw [World.size_alloc, hW] at this
    exact this
  have hWs : W.heap.size = w.heap.size + 2 := by rw [← hW]; simp
  have HWS := Lib.hid hWs
  have HR1 := Lib.hid r1
  have HR2 := Lib.hid r2
  have HG := Lib.hid hg
  have HW := Lib.hid hW
  have HS := Lib.hid (ssegv_any A B c d L D W (hA.grown hg (by simp)) (hB.grown hg (by simp)) (by omega) (by omega))
  have HS2 := Lib.hid (sidx_any C f L.length F W (hC.grown hg (by simp)) (by omega) (by omega))
  have HCUT := Lib.hid (scut_any A B c d L D W (hA.grown hg (by simp)) (hu.grown0 hg) hl hs1)
  have HV := Lib.hid hv
  have HU := Lib.hid hu
  have HA := Lib.hid hA
  have HC := Lib.hid hC
  have HPS := Lib.hid (fun j x (h : F[j]? = some x) => pick_step hlok hs1 hmem h)
  have HSUM := Lib.hid (fun j h => pick_sum hlok hs1 hmem j h)
  have HMEM := Lib.hid hmem
  have HOK := Lib.hid hlok
  have hpok := pickI_ok hlok hmem
  have HNO : Hid (∀ j, 400 < sumI (pickI L (F.take j)) → pickC L D F = [] ∧ pickR L D F = [] ∧ pickB L D F = false) := Lib.hid (fun j h => by
    have h1 := pick_takes hlok hmem j
    have : pickB L D F = false := by
      cases hp : pickB L D F with
      | false => rfl
      | true => have := (lensB_get (pickB_get hp).2.2).2.2.1; omega
    simp [pickC, pickR, this])
  have HYES : Hid (sumI (pickI L F) ≤ 400 → pickC L D F = pickI L F ∧ pickR L D F = pickP L D F ∧ pickB L D F = true) := Lib.hid (fun h => by
    have : pickB L D F = true := by simp [pickB, hb, hb2, lensB_mk (show (pickI L F).length ≤ 400 by rw [pickI_len]; exact hf4) hpok h]
    simp [pickC, pickR, this])
  obtain ⟨LL, hLL⟩ : ∃ LL, cutI L D = LL := ⟨_, rfl⟩
  have HLL := Lib.hid (show LL.length = L.length by rw [← hLL, cutI_len])
  rw [hLL] at HCUT HPS
  obtain ⟨cs, hcs⟩ : ∃ x, pickC L D F = x := ⟨_, rfl⟩
  obtain ⟨ks, hks⟩ : ∃ x, pickR L D F = x := ⟨_, rfl⟩
  obtain ⟨bb, hbb⟩ : ∃ x, pickB L D F = x := ⟨_, rfl⟩
  rw [hcs, hks, hbb] at HNO HYES
  rw [hcs, hks, hbb]
  rw [hb] at HS
  rw [hb2] at HS2
  obtain ⟨n, hnn⟩ : ∃ n, L.length = n := ⟨_, rfl⟩
  obtain ⟨m, hmm⟩ : ∃ m, D.length = m := ⟨_, rfl⟩
  obtain ⟨q0, hqq⟩ : ∃ q, F.length = q := ⟨_, rfl⟩
  have HN := Lib.hid hnn
  have HM := Lib.hid hmm
  have HQ := Lib.hid hqq
  have hll : LL.length = n := by rw [HLL.out, hnn]
  have HLN := Lib.hid hll
  rw [hnn] at hl4 HS HS2 HCUT HV
  rw [hmm] at HS HCUT HU
  rw [hqq] at HS2 hf4
  rw [hnn, hmm, hqq]
  have HPOST : Hid (∀ (A : Option Addr) (c : Nat) (A2 : Option Addr) (c2 : Nat) (w' : World), w.grownBy w' none → w'.ownsRow w.heap.size 3 1 (.slice A cs.length c) cs.length (cs.map (Value.int .i64)) →
    w'.ownsRow w.heap.size 3 1 (.slice A2 ks.length c2) ks.length (ks.map (Value.int .i64)) → (∀ g, (Value.slice A cs.length c).ownBlock = some g → (Value.slice A2 ks.length c2).ownBlock ≠ some g) → PckPost cs ks bb w (.returned (.tuple #[.slice A cs.length c, .slice A2 ks.length c2, .bool bb])) w') := Lib.hid (fun A c A2 c2 w' h1 h2 h3 h4 => ⟨A, c, A2, c2, rfl, h1, h2, h3, h4⟩)
  clear hA hB hC hb hb2 hl hs1 hok1 hlok hs4 hmem hpok hLL hcs hks hbb hnn hmm hqq r1 r2 hg hW hWs hv hu ht HLL hll
  go_enter Try.func32, Try.ntmps32
  go_wp2_with fail
  rw [HW.out]
  refine HS.out.mono ?_
  rintro e w1 ⟨rfl, rfl⟩
  go_wp2_with fail
  refine HS2.out.mono ?_
  rintro e w1 ⟨rfl, rfl⟩
  go_wp2_with fail
  refine HCUT.out.mono ?_
  rintro e w2 ⟨A1, c1, vs, rfl, hg2, ho2, hsl⟩
  rw [HLN.out] at ho2 hsl
  have HLN2 := HLN.out
  rw [HLN2]
  have HO2 := Lib.hid ho2
  have HSL := Lib.hid hsl
  have HRA := Lib.hid (own_keep HR1.out (fun g h => hg2.block g (HR1.out.lt g h).2 (by simp)))
  have HRB := Lib.hid (own_keep HR2.out (fun g h => hg2.block g (HR2.out.lt g h).2 (by simp)))
  have HG2 := Lib.hid (HG.out.trans hg2)
  clear hg2 ho2 hsl HS HS2 HCUT HLN2 HW HR1 HR2
  go_wp2_with fail
  go_loopw [9, 10, 34] (fun u v i wr => ∃ (j q : Nat) (A3 A4 : Option Addr) (c3 c4 : Nat), j ≤ q0 ∧ i = .int .i64 j ∧ u = .slice A3 j c3 ∧ v = .slice A4 q c4 ∧ q ≤ 400 ∧ Hid ((pickP L D (F.take j)).length = q) ∧ Hid (wr.ownsRow w.heap.size 3 1 (.slice A3 j c3) j ((pickI L (F.take j)).map (Value.int .i64))) ∧ Hid (wr.ownsRow w.heap.size 3 1 (.slice A4 q c4) q ((pickP L D (F.take j)).map (Value.int .i64))) ∧ Hid (∀ g, (Value.slice A4 q c4).ownBlock = some g → (Value.slice A3 j c3).ownBlock ≠ some g) ∧ Hid (w.grownBy wr none) ∧ Hid (wr.ownsRow W.heap.size 22 1 (.slice A1 n c1) n vs)) (fun _ _ i _ => q0 - (intOf i).toNat)
  case atStart => exact ⟨0, 0, some ⟨w.heap.size, 0, none⟩, some ⟨w.heap.size + 1, 0, none⟩, 0, 0, Nat.zero_le _, rfl, rfl, rfl, by omega, Lib.hid rfl, HRA, HRB, Lib.hid (fun g h1 h2 => by simp [Value.ownBlock] at h1 h2; omega), HG2, HO2⟩
  case round =>
    obtain ⟨j, q, A3, A4, c3, c4, hj, rfl, rfl, rfl, hq4, hql, hown, hkown, hap, hgr, hseg⟩ := hrel
    obtain ⟨wo, rfl⟩ : ∃ wo : World, wo = wr := ⟨_, rfl⟩
    by_cases hlt : j < q0
    · obtain ⟨x0, hx⟩ : ∃ x, F[j]? = some x := ⟨_, List.getElem?_eq_getElem (by have := HQ.out; omega)⟩
      obtain ⟨b, off, rfl, _, hc⟩ := HC.out.grown hgr.out (by simp) (by have := HQ.out; omega)
      have hcell := hc j x0 hx
      obtain ⟨hx0, hx1⟩ := HMEM.out x0 (List.mem_of_getElem? hx)
      obtain ⟨x, rfl⟩ : ∃ x : Nat, x0 = (x : Int) := ⟨x0.toNat, by omega⟩
      have hxn : x < n := by have := HN.out; omega
      obtain ⟨z0, M, hz, hM, hml, hp1, hp2, _⟩ := HPS.out j _ hx
      rw [Int.toNat_natCast] at hz hM
      obtain ⟨z, hzl⟩ : ∃ z, M.length = z := ⟨_, rfl⟩
      have hz0 : z0 = (z : Int) := by omega
      subst hz0
      have hsm := HSUM.out (j + 1) (by have := HQ.out; omega)
      rw [hp2, List.length_append, hql.out, hzl] at hsm
      have HSM := Lib.hid hsm
      have HP1 := Lib.hid hp1
      have HP2 := Lib.hid hp2
      have HML := Lib.hid hzl
      have hz9 : z ≤ 400 := by have := (sumI_le HOK.out hz).2.1; omega
      obtain ⟨b2, off2, rfl, _, hc2⟩ := HA.out.grown hgr.out (by simp) (by have := HN.out; omega)
      have hcell2 := hc2 x _ hz
      have hB := hgr.out.size
      have hnl : ∀ (i : Nat) (u : Value), ([.int .i64 (z : Int)] : List Value)[i]? = some u → (wo.alloc (.cells #[.int .i64 (z : Int)] 3)).cell? ((⟨wo.heap.size, 0, none⟩ : Addr).add i) = some u := cell_one_new _ _ _
      have HNL := Lib.hid hnl
      have hown2 := hown.out.alloc (.cells #[.int .i64 (z : Int)] 3)
      have HMM := Lib.hid hM
      clear hnl hc hc2 hz hx hx0 hx1 hsm hp1 hp2 hzl hml hM
      go_wp2_with (at_builtin; refine wpList_append_own_at _ rfl _ _ 22 rfl w.heap.size 3 i0 (.int .i64 0) 1 8 Try.underlying22 hi0 hz0' hz1' hz2' rfl (by decide) _ _ _ rfl hown2 ⟨wo.heap.size, 0, none⟩ 1 1 [.int .i64 (z : Int)] rfl rfl HNL.out ?d2 ?d3 ?d4 ?d5 ?_)
      case d2 => simp [Value.oneCell']
      case d3 => simp only [maxLen]; omega
      case d4 => omega
      case d5 => (try simp only [World.size_alloc]); omega
      intro v8 w8 hown8 hg8 _ hat8
      have hseg8 := own_aside3 (hseg.out.alloc (.cells #[.int .i64 (z : Int)] 3)) hown2 (by decide) hg8
      obtain ⟨g8, o8, u8, p8, g8', c8, rfl⟩ := pair_oneP hgr.out (Nat.le_refl _) hown.out hkown.out (fun g h1 h2 => hap.out g h2 h1) hown8 hg8 hat8
      rw [← HP1.out] at o8
      obtain ⟨b3, off3, B3, d3, rfl, hcell3, _, hi3⟩ := (Sls.rws (HSL.out w8 (HU.out.grown0 g8) |> fun h => by rw [HLN.out]; exact h) (by rw [HLN.out]; exact hseg8)).at_ HMM.out
      obtain ⟨v9, w9, hrun, ho9, hg9, hat9⟩ := run_append_list w8 w.heap.size _ q _ u8 B3 d3 M hi3 (by rw [HML.out]; omega) g8.size
      rw [← List.map_append, ← HP2.out] at ho9
      have hG9 := gr_own g8 hg9 (fun g hg => (u8.lt g hg).1)
      have hS9 := own_aside3 hseg8 u8 (by decide) hg9
      rw [HML.out] at hcell3 hrun ho9
      have hC9 : w9.ownsRow w.heap.size 3 1 (.slice (some ⟨g8', 0, none⟩) (j + 1) c8) (j + 1) ((pickI L (F.take (j + 1))).map (Value.int .i64)) := own_keep o8 (fun g hgg => hg9.block g (o8.lt g hgg).2 (fun e => p8 g hgg e.symm))
      have hap9 : ∀ g, v9.ownBlock = some g → (Value.slice (some ⟨g8', 0, none⟩) (j + 1) c8).ownBlock ≠ some g := fun g h1 h2 => by
        rcases hat9 with e | e
        · exact p8 g h2 (by rw [← e]; exact h1)
        · rw [h1] at e
          have := (o8.lt g h2).2
          simp at e
          omega
      obtain ⟨A9, m9, c9, rfl⟩ := own_form ho9
      have hm9 : m9 = q + z := by
        rcases ho9.2 with ⟨h, h'⟩ | ⟨g, cap, cur, h, _⟩
        · cases h; omega
        · cases h; rfl
      subst hm9
      have HO9 := Lib.hid ho9
      have HG9 := Lib.hid hG9
      have HS9 := Lib.hid hS9
      have HC9 := Lib.hid hC9
      have HAP9 := Lib.hid hap9
      have HQZ : Hid ((pickP L D (F.take (j + 1))).length = q + z) := Lib.hid (by rw [HP2.out, List.length_append, hql.out, HML.out])
      clear hi3 ho9 hG9 hS9 hC9 hap9 hg9 hat9 hown8 hg8 g8 o8 hown2 u8 p8 hat8 hseg8
      by_cases hbig : 400 < q + z
      · have HNN := Lib.hid (HNO.out (j + 1) (by have := HSM.out; omega))
        have HPM := Lib.hid (pickPost_made w w9 HG9.out)
        go_wp2_with (at_builtin; refine Lib.wpList_append_run _ rfl _ _ _ _ rfl _ _ rfl rfl _ _ hrun ?_)
        go_ret3
        rw [HNN.out.1, HNN.out.2.1, HNN.out.2.2]
        exact HPM.out
      · go_wp2_with (at_builtin; refine Lib.wpList_append_run _ rfl _ _ _ _ rfl _ _ rfl rfl _ _ hrun ?_)
        go_roundw
        case rel => exact ⟨j + 1, q + z, _, A9, c8, c9, by omega, by go_num, rfl, rfl, by omega, HQZ, HC9, HO9, HAP9, HG9, HS9⟩
        case measure => simp [intOf]; omega
    · have hjn : j = q0 := by omega
      have HJ := Lib.hid hjn
      clear hjn
      go_wp2_with fail
      go_ret3
      have e : F.take j = F := by rw [HJ.out, ← HQ.out, List.take_length]
      have h1 := hown.out
      have h2 := hkown.out
      have h3 := hql.out
      have h4 := HSUM.out j (by have := HQ.out; omega)
      rw [e] at h1 h2 h3 h4
      obtain ⟨y1, y2, y3⟩ := HYES.out (by omega)
      have e1 : (pickI L F).length = j := by rw [pickI_len, HQ.out, HJ.out]
      rw [← y1] at h1 e1
      rw [← y2] at h2 h3
      have := HPOST.out A3 c3 A4 c4 wo hgr.out (by rw [e1]; exact h1) (by rw [h3]; exact h2) (fun g g1 g2 => by rw [e1] at g1; rw [h3] at g2; exact hap.out g g2 g1)
      rw [e1, h3, y3] at this
      rw [y3]
      exact this

end Go.Proofs.Ytpakihjkjdanlaa
