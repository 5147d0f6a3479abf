/- The law FnScatter: whatever the input, true. -/
import Derived.Test.YtpakihjkjdanlaaDrawS
import Derived.Test.YtpakihjkjdanlaaInvI
import Derived.Test.YtpakihjkjdanlaaGdscatter
namespace Go.Proofs.Ytpakihjkjdanlaa
open Go.ChangeShapes Go.WideShapes Go.ChangeAt Go.RowKit

theorem scat_gather {D F : List Int} (h : scatB D F = true) : gatherB (scatR D F) F = true ∧ gatherR (scatR D F) F = D := by
  obtain ⟨hp, hd, hl⟩ := scatB_get h
  obtain ⟨hi, hnd⟩ := permB_get hp
  obtain ⟨h4, _, hm⟩ := idxB_get hi
  have hr : scatR D F = pickI D (invI F) := by rw [scatR, if_pos h]
  have hlen : (scatR D F).length = F.length := by rw [hr, pickI_len, invI_len h4]
  have hdb : dataB (scatR D F) = true := by
    simp only [dataB, Bool.and_eq_true, decide_eq_true_eq]
    refine ⟨by omega, okN_all (fun x hx => ?_)⟩
    rw [hr] at hx
    obtain ⟨y, hy, rfl⟩ := List.mem_map.1 hx
    have h1 := (idxB_get (invI_perm hp).1).2.2 y hy
    have h2 : y.toNat < D.length := by omega
    have := okN_at (List.getElem?_eq_getElem h2) (dataB_get hd).2
    rw [getD_some (List.getElem?_eq_getElem h2)]
    exact this
  have hb : gatherB (scatR D F) F = true := by simp [gatherB, hdb, hlen, hi]
  refine ⟨hb, ?_⟩
  rw [gatherR, if_pos hb]
  refine List.ext_getElem? fun k => ?_
  rcases Nat.lt_or_ge k F.length with hk | hk
  · obtain ⟨i0, hi0⟩ : ∃ i, F[k]? = some i := ⟨_, List.getElem?_eq_getElem hk⟩
    have hb0 := hm i0 (List.mem_of_getElem? hi0)
    obtain ⟨i, rfl⟩ : ∃ i : Nat, i0 = (i : Int) := ⟨i0.toNat, by omega⟩
    have h1 := invI_at hp hi0
    rw [pickI, List.getElem?_map, hi0]
    simp only [Option.map_some, Int.toNat_natCast]
    rw [hr, getD_some (x := D.getD k 0) (by rw [pickI, List.getElem?_map, h1]; simp), List.getD_eq_getElem?_getD, List.getElem?_eq_getElem (by omega)]
    rfl
  · rw [List.getElem?_eq_none (by rw [pickI_len]; exact hk), List.getElem?_eq_none (by omega)]
theorem scat_other {D F : List Int} (h : scatB D F = true) : gatherB D (invR F) = true ∧ gatherR D (invR F) = scatR D F := by
  obtain ⟨hp, hd, hl⟩ := scatB_get h
  have hr : scatR D F = pickI D (invI F) := by rw [scatR, if_pos h]
  have hv : invR F = invI F := by rw [invR, if_pos hp]
  have hb : gatherB D (invR F) = true := by
    have := (invI_perm hp).1
    simp [gatherB, hd, hv, hl, this]
  exact ⟨hb, by rw [gatherR, if_pos hb, hr, hv]⟩
theorem inv_twice {F : List Int} (hp : permB F = true) : permB (invR F) = true ∧ invR (invR F) = F := by
  obtain ⟨hi, hnd⟩ := permB_get hp
  obtain ⟨h4, _, hm⟩ := idxB_get hi
  obtain ⟨h5, h6⟩ := invI_perm hp
  have hv : invR F = invI F := by rw [invR, if_pos hp]
  have hnod : (invI F).Nodup := inj_nodup (fun i j x h1 h2 => by
    have hil : i < F.length := by have := (List.getElem?_eq_some_iff.1 h1).1; omega
    have hjl : j < F.length := by have := (List.getElem?_eq_some_iff.1 h2).1; omega
    obtain ⟨k, _, hk⟩ := onto hnd hm rfl hil
    obtain ⟨l, _, hl⟩ := onto hnd hm rfl hjl
    have e1 := invI_at hp hk
    have e2 := invI_at hp hl
    rw [h1] at e1
    rw [h2] at e2
    simp only [Option.some.injEq] at e1 e2
    have : k = l := by omega
    subst this
    rw [hk] at hl
    simp only [Option.some.injEq] at hl
    omega)
  have hpi : permB (invI F) = true := by simp [permB, h6, h5, hnod]
  rw [hv]
  refine ⟨hpi, ?_⟩
  rw [invR, if_pos hpi]
  refine List.ext_getElem? fun k => ?_
  rcases Nat.lt_or_ge k F.length with hk | hk
  · obtain ⟨i0, hi0⟩ : ∃ i, F[k]? = some i := ⟨_, List.getElem?_eq_getElem hk⟩
    have hb0 := hm i0 (List.mem_of_getElem? hi0)
    obtain ⟨i, rfl⟩ : ∃ i : Nat, i0 = (i : Int) := ⟨i0.toNat, by omega⟩
    rw [invI_at hpi (invI_at hp hi0), hi0]
  · rw [List.getElem?_eq_none (by rw [invI_len (by omega)]; omega), List.getElem?_eq_none hk]

theorem gather_own (v u : Value) (L D : List Int) (w : World) (h1 : OwnI w v L) (h2 : OwnI w u D) (hn : L.length ≤ 1048576) (hm : D.length ≤ 1048576) :
    Calls Try.prog 18 #[v, u] w (ListPostB (gatherR L D) (gatherB L D) w) := by
  obtain ⟨A, c, rfl, hA, _, _, _⟩ := h1.form
  obtain ⟨B, d, rfl, hB, _, _, _⟩ := h2.form
  exact gatherdata_any A B c d L D w hA hB hn hm
theorem scatter_own (v u : Value) (L D : List Int) (w : World) (h1 : OwnI w v L) (h2 : OwnI w u D) (hn : L.length ≤ 1048576) (hm : D.length ≤ 1048576) :
    Calls Try.prog 27 #[v, u] w (ListPostB (scatR L D) (scatB L D) w) := by
  obtain ⟨A, c, rfl, hA, _, _, _⟩ := h1.form
  obtain ⟨B, d, rfl, hB, _, _, _⟩ := h2.form
  exact scatter_any A B c d L D w hA hB hn hm
theorem sscatter_own (v u : Value) (L D : List Int) (w : World) (h1 : OwnI w v L) (h2 : OwnI w u D) (hn : L.length ≤ 1048576) (hm : D.length ≤ 1048576) :
    Calls Try.prog 26 #[v, u] w (ListPostB (scatR L D) (scatB L D) w) := by
  obtain ⟨A, c, rfl, hA, _, _, _⟩ := h1.form
  obtain ⟨B, d, rfl, hB, _, _, _⟩ := h2.form
  exact sscatter_any A B c d L D w hA hB hn hm
theorem invert_own (v : Value) (L : List Int) (w : World) (h1 : OwnI w v L) (hn : L.length ≤ 1048576) :
    Calls Try.prog 25 #[v] w (ListPostB (invR L) (permB L) w) := by
  obtain ⟨A, c, rfl, hA, _, _, _⟩ := h1.form
  exact invert_any A c L w hA hn
theorem sinvert_own (v : Value) (L : List Int) (w : World) (h1 : OwnI w v L) (hn : L.length ≤ 1048576) :
    Calls Try.prog 24 #[v] w (ListPostB (invR L) (permB L) w) := by
  obtain ⟨A, c, rfl, hA, _, _, _⟩ := h1.form
  exact sinvert_any A c L w hA hn

set_option maxRecDepth 100000 in
set_option maxHeartbeats 16000000 in
theorem law_dscatter (A : Option Addr) (n c : Nat) (w : World) (hB : Byts w A n) (hc : n ≤ c) (hn : n ≤ 9223372036854775807) :
    Calls Try.prog 12 #[.slice A n c] w fun e w' => e = .returned (.bool true) ∧ w.grownBy w' none := by
  by_cases h1 : 1048576 < n
  · clear hB
    go_enter Try.func12, Try.ntmps12
    go_wp2_with fail
    go_ret
    exact ⟨rfl, gr_refl _ _⟩
  have HD := Lib.hid (drawscatter_any A n c w hB hc hn)
  clear hB hc
  go_enter Try.func12, Try.ntmps12
  go_wp2_with fail
  refine HD.out.mono ?_
  rintro e w1 ⟨u, v, D, F, rfl, hu, hv, hD, hF, hg⟩
  have hD4 : D.length ≤ 1048576 := by omega
  have hF4 : F.length ≤ 1048576 := by omega
  obtain ⟨z, hz⟩ : ∃ z, (scatR D F).length = z := ⟨_, rfl⟩
  obtain ⟨R, hR⟩ : ∃ R, scatB D F = R := ⟨_, rfl⟩
  obtain ⟨y, hy⟩ : ∃ y, (invR F).length = y := ⟨_, rfl⟩
  obtain ⟨P, hP⟩ : ∃ P, permB F = P := ⟨_, rfl⟩
  have HM1 := Lib.hid (show ∀ w, OwnI w u D → OwnI w v F → Calls Try.prog 27 #[u, v] w (fun e w' => ∃ A c, e = .returned (.tuple #[.slice A z c, .bool R]) ∧ w.grownBy w' none ∧ w'.ownsRow w.heap.size 3 1 (.slice A z c) z ((scatR D F).map (Value.int .i64))) from fun w h0 h1 => by
    rw [← hz, ← hR]; exact scatter_own u v D F w h0 h1 hD4 hF4)
  have HM2 := Lib.hid (show ∀ w, OwnI w u D → OwnI w v F → Calls Try.prog 26 #[u, v] w (fun e w' => ∃ A c, e = .returned (.tuple #[.slice A z c, .bool R]) ∧ w.grownBy w' none ∧ w'.ownsRow w.heap.size 3 1 (.slice A z c) z ((scatR D F).map (Value.int .i64))) from fun w h0 h1 => by
    rw [← hz, ← hR]; exact sscatter_own u v D F w h0 h1 hD4 hF4)
  have HN1 := Lib.hid (show ∀ w, OwnI w v F → Calls Try.prog 25 #[v] w (fun e w' => ∃ A c, e = .returned (.tuple #[.slice A y c, .bool P]) ∧ w.grownBy w' none ∧ w'.ownsRow w.heap.size 3 1 (.slice A y c) y ((invR F).map (Value.int .i64))) from fun w h0 => by
    rw [← hy, ← hP]; exact invert_own v F w h0 hF4)
  have HN2 := Lib.hid (show ∀ w, OwnI w v F → Calls Try.prog 24 #[v] w (fun e w' => ∃ A c, e = .returned (.tuple #[.slice A y c, .bool P]) ∧ w.grownBy w' none ∧ w'.ownsRow w.heap.size 3 1 (.slice A y c) y ((invR F).map (Value.int .i64))) from fun w h0 => by
    rw [← hy, ← hP]; exact sinvert_own v F w h0 hF4)
  have HP1 := Lib.hid (show ∀ w, OwnI w v F → Calls Try.prog 23 #[v] w (fun e w' => e = .returned (.bool P) ∧ w.grownBy w' none) from fun w h0 => by
    obtain ⟨A, c, rfl, hA, _, _, _⟩ := h0.form
    rw [← hP]; exact isperm_any A c F w hA hF4)
  have HP2 := Lib.hid (show ∀ w, OwnI w v F → Calls Try.prog 22 #[v] w (fun e w' => e = .returned (.bool P) ∧ w.grownBy w' none) from fun w h0 => by
    obtain ⟨A, c, rfl, hA, _, _, _⟩ := h0.form
    rw [← hP]; exact sisperm_any A c F w hA hF4)
  have HS1 := Lib.hid (show ∀ A B c d w, Ints w A (scatR D F) → Ints w B (scatR D F) → Calls Try.prog 37 #[.slice A z c, .slice B z d] w (fun e w' => e = .returned (.bool true) ∧ ∃ m, w' = w.drewN m) from fun A B c d w h h2 => by
    rw [← hz]; exact same_any A B c d (scatR D F) w h h2 (scatR_short hF4))
  have HS2 := Lib.hid (show ∀ A B c d w, Ints w A (invR F) → Ints w B (invR F) → Calls Try.prog 37 #[.slice A y c, .slice B y d] w (fun e w' => e = .returned (.bool true) ∧ ∃ m, w' = w.drewN m) from fun A B c d w h h2 => by
    rw [← hy]; exact same_any A B c d (invR F) w h h2 (invR_short hF4))
  have HZ := Lib.hid hz
  have HR := Lib.hid hR
  have HY := Lib.hid hy
  have HPB := Lib.hid hP
  have HU := Lib.hid hu
  have HV := Lib.hid hv
  have HG := Lib.hid hg
  have HD4 := Lib.hid hD4
  have HF4 := Lib.hid hF4
  have hRR : (R != R) = false := by simp
  have hRR' : (R == R) = true := by simp
  have hPP : (P != P) = false := by simp
  have hPP' : (P == P) = true := by simp
  clear hu hv hg HD hz hR hy hP
  go_wp2_with fail
  refine (HM1.out _ HU.out HV.out).mono ?_
  rintro e w2 ⟨A5, c5, rfl, hg, ho⟩
  have HG := Lib.hid (HG.out.trans hg)
  have HU := Lib.hid (HU.out.grown0 hg)
  have HV := Lib.hid (HV.out.grown0 hg)
  have HZ5 := Lib.hid (OwnI.of ho HZ.out)
  clear hg ho HM1
  go_wp2_with fail
  refine (HM2.out _ HU.out HV.out).mono ?_
  rintro e w3 ⟨A6, c6, rfl, hg, ho⟩
  have HG := Lib.hid (HG.out.trans hg)
  have HU := Lib.hid (HU.out.grown0 hg)
  have HV := Lib.hid (HV.out.grown0 hg)
  have HZ5 := Lib.hid (HZ5.out.grown0 hg)
  have HZ6 := Lib.hid (Ints.of_own (zs := scatR D F) (by rw [HZ.out]; exact ho))
  clear hg ho HM2
  go_wp2_with fail
  refine (HP1.out _ HV.out).mono ?_
  rintro e w4 ⟨rfl, hg⟩
  have HG := Lib.hid (HG.out.trans hg)
  have HU := Lib.hid (HU.out.grown0 hg)
  have HV := Lib.hid (HV.out.grown0 hg)
  have HZ5 := Lib.hid (HZ5.out.grown0 hg)
  have HZ6 := Lib.hid (HZ6.out.grown hg (by simp))
  clear hg
  go_wp2_with fail
  refine (HN1.out _ HV.out).mono ?_
  rintro e w5 ⟨A7, c7, rfl, hg, ho⟩
  have HG := Lib.hid (HG.out.trans hg)
  have HU := Lib.hid (HU.out.grown0 hg)
  have HV := Lib.hid (HV.out.grown0 hg)
  have HZ5 := Lib.hid (HZ5.out.grown0 hg)
  have HZ6 := Lib.hid (HZ6.out.grown hg (by simp))
  have HZ7 := Lib.hid (OwnI.of ho HY.out)
  clear hg ho
  go_wp2_with fail
  refine (HN2.out _ HV.out).mono ?_
  rintro e w6 ⟨A8, c8, rfl, hg, ho⟩
  have HG := Lib.hid (HG.out.trans hg)
  have HU := Lib.hid (HU.out.grown0 hg)
  have HV := Lib.hid (HV.out.grown0 hg)
  have HZ5 := Lib.hid (HZ5.out.grown0 hg)
  have HZ7 := Lib.hid (HZ7.out.grown0 hg)
  have HZ6 := Lib.hid (HZ6.out.grown hg (by simp))
  have HZ8 := Lib.hid (Ints.of_own (zs := invR F) (by rw [HY.out]; exact ho))
  clear hg ho
  go_wp2_with fail
  refine (HS1.out _ _ c5 c6 _ (Ints.of_own (zs := scatR D F) (by have h9 := HZ5.out; unfold OwnI at h9; exact h9)) HZ6.out).mono ?_
  rintro e w7 ⟨rfl, q7, rfl⟩
  have HG := Lib.hid (HG.out.trans (gr_drewN w6 q7 none))
  have HU := Lib.hid (HU.out.grown0 (gr_drewN w6 q7 none))
  have HV := Lib.hid (HV.out.grown0 (gr_drewN w6 q7 none))
  have HZ5 := Lib.hid (HZ5.out.grown0 (gr_drewN w6 q7 none))
  have HZ7 := Lib.hid (HZ7.out.grown0 (gr_drewN w6 q7 none))
  have HZ6 := Lib.hid (HZ6.out.grown (gr_drewN w6 q7 none) (by simp))
  have HZ8 := Lib.hid (HZ8.out.grown (gr_drewN w6 q7 none) (by simp))
  generalize w6.drewN q7 = w7 at HG HU HV HZ5 HZ7 HZ6 HZ8 ⊢
  go_wp2_with fail
  refine (HP2.out _ HV.out).mono ?_
  rintro e w8 ⟨rfl, hg⟩
  have HG := Lib.hid (HG.out.trans hg)
  have HU := Lib.hid (HU.out.grown0 hg)
  have HV := Lib.hid (HV.out.grown0 hg)
  have HZ5 := Lib.hid (HZ5.out.grown0 hg)
  have HZ7 := Lib.hid (HZ7.out.grown0 hg)
  have HZ6 := Lib.hid (HZ6.out.grown hg (by simp))
  have HZ8 := Lib.hid (HZ8.out.grown hg (by simp))
  clear hg
  go_wp2_with fail
  refine (HS2.out _ _ c7 c8 _ (Ints.of_own (zs := invR F) (by have h9 := HZ7.out; unfold OwnI at h9; exact h9)) HZ8.out).mono ?_
  rintro e w9 ⟨rfl, q9, rfl⟩
  have HG := Lib.hid (HG.out.trans (gr_drewN w8 q9 none))
  have HU := Lib.hid (HU.out.grown0 (gr_drewN w8 q9 none))
  have HV := Lib.hid (HV.out.grown0 (gr_drewN w8 q9 none))
  have HZ5 := Lib.hid (HZ5.out.grown0 (gr_drewN w8 q9 none))
  have HZ7 := Lib.hid (HZ7.out.grown0 (gr_drewN w8 q9 none))
  have HZ6 := Lib.hid (HZ6.out.grown (gr_drewN w8 q9 none) (by simp))
  have HZ8 := Lib.hid (HZ8.out.grown (gr_drewN w8 q9 none) (by simp))
  generalize w8.drewN q9 = w9 at HG HU HV HZ5 HZ7 HZ6 HZ8 ⊢
  cases R with
  | false =>
    go_wp2_with fail
    refine (HS1.out _ _ c5 c6 _ (Ints.of_own (zs := scatR D F) (by have h9 := HZ5.out; unfold OwnI at h9; exact h9)) HZ6.out).mono ?_
    rintro e w10 ⟨rfl, q10, rfl⟩
    have HG := Lib.hid (HG.out.trans (gr_drewN w9 q10 none))
    have HU := Lib.hid (HU.out.grown0 (gr_drewN w9 q10 none))
    have HV := Lib.hid (HV.out.grown0 (gr_drewN w9 q10 none))
    have HZ5 := Lib.hid (HZ5.out.grown0 (gr_drewN w9 q10 none))
    have HZ7 := Lib.hid (HZ7.out.grown0 (gr_drewN w9 q10 none))
    have HZ6 := Lib.hid (HZ6.out.grown (gr_drewN w9 q10 none) (by simp))
    have HZ8 := Lib.hid (HZ8.out.grown (gr_drewN w9 q10 none) (by simp))
    generalize w9.drewN q10 = w10 at HG HU HV HZ5 HZ7 HZ6 HZ8 ⊢
    go_wp2_with fail
    refine (HP2.out _ HV.out).mono ?_
    rintro e w11 ⟨rfl, hg⟩
    have HG := Lib.hid (HG.out.trans hg)
    have HU := Lib.hid (HU.out.grown0 hg)
    have HV := Lib.hid (HV.out.grown0 hg)
    have HZ5 := Lib.hid (HZ5.out.grown0 hg)
    have HZ7 := Lib.hid (HZ7.out.grown0 hg)
    have HZ6 := Lib.hid (HZ6.out.grown hg (by simp))
    have HZ8 := Lib.hid (HZ8.out.grown hg (by simp))
    clear hg
    go_wp2_with fail
    refine (HS2.out _ _ c7 c8 _ (Ints.of_own (zs := invR F) (by have h9 := HZ7.out; unfold OwnI at h9; exact h9)) HZ8.out).mono ?_
    rintro e w12 ⟨rfl, q12, rfl⟩
    have HG := Lib.hid (HG.out.trans (gr_drewN w11 q12 none))
    have HU := Lib.hid (HU.out.grown0 (gr_drewN w11 q12 none))
    have HV := Lib.hid (HV.out.grown0 (gr_drewN w11 q12 none))
    have HZ5 := Lib.hid (HZ5.out.grown0 (gr_drewN w11 q12 none))
    have HZ7 := Lib.hid (HZ7.out.grown0 (gr_drewN w11 q12 none))
    have HZ6 := Lib.hid (HZ6.out.grown (gr_drewN w11 q12 none) (by simp))
    have HZ8 := Lib.hid (HZ8.out.grown (gr_drewN w11 q12 none) (by simp))
    generalize w11.drewN q12 = w12 at HG HU HV HZ5 HZ7 HZ6 HZ8 ⊢
    go_wp2_with fail
    go_ret
    exact ⟨rfl, HG.out⟩
  | true =>
    have HGA := Lib.hid (scat_gather HR.out)
    have HGB := Lib.hid (scat_other HR.out)
    have HPT := Lib.hid (inv_twice (scatB_get HR.out).1)
    obtain ⟨A3, c3, rfl, hI3, _, _, _⟩ := HU.out.form
    obtain ⟨A4, c4, rfl, hI4, _, _, _⟩ := HV.out.form
    have HI3 := Lib.hid hI3
    have HI4 := Lib.hid hI4
    obtain ⟨k, hk⟩ : ∃ k, D.length = k := ⟨_, rfl⟩
    obtain ⟨m, hm⟩ : ∃ m, F.length = m := ⟨_, rfl⟩
    have HK := Lib.hid hk
    have HM := Lib.hid hm
    rw [hk] at HU
    rw [hm] at HV HP1 HP2
    simp only [hk, hm]
    have HQ1 := Lib.hid (show ∀ w, OwnI w (.slice A5 z c5) (scatR D F) → OwnI w (.slice A4 m c4) F → Calls Try.prog 18 #[.slice A5 z c5, .slice A4 m c4] w (fun e w' => ∃ A c, e = .returned (.tuple #[.slice A k c, .bool true]) ∧ w.grownBy w' none ∧ w'.ownsRow w.heap.size 3 1 (.slice A k c) k (D.map (Value.int .i64))) from fun w h0 h1 => by
      have h5 := gather_own _ _ (scatR D F) F w h0 h1 (scatR_short HF4.out) HF4.out
      rw [HGA.out.1, HGA.out.2] at h5
      refine h5.mono ?_
      rintro e w' ⟨A, c, rfl, hg, ho⟩
      rw [HK.out] at ho ⊢
      exact ⟨A, c, rfl, hg, ho⟩)
    have HQ2 := Lib.hid (show ∀ w, OwnI w (.slice A3 k c3) D → OwnI w (.slice A7 y c7) (invR F) → Calls Try.prog 18 #[.slice A3 k c3, .slice A7 y c7] w (fun e w' => ∃ A c, e = .returned (.tuple #[.slice A z c, .bool true]) ∧ w.grownBy w' none ∧ w'.ownsRow w.heap.size 3 1 (.slice A z c) z ((scatR D F).map (Value.int .i64))) from fun w h0 h1 => by
      have h5 := gather_own _ _ D (invR F) w h0 h1 HD4.out (invR_short HF4.out)
      rw [HGB.out.1, HGB.out.2] at h5
      refine h5.mono ?_
      rintro e w' ⟨A, c, rfl, hg, ho⟩
      rw [HZ.out] at ho ⊢
      exact ⟨A, c, rfl, hg, ho⟩)
    have HQ3 := Lib.hid (show ∀ w, OwnI w (.slice A7 y c7) (invR F) → Calls Try.prog 25 #[.slice A7 y c7] w (fun e w' => ∃ A c, e = .returned (.tuple #[.slice A m c, .bool true]) ∧ w.grownBy w' none ∧ w'.ownsRow w.heap.size 3 1 (.slice A m c) m (F.map (Value.int .i64))) from fun w h0 => by
      have h5 := invert_own _ (invR F) w h0 (invR_short HF4.out)
      rw [HPT.out.1, HPT.out.2] at h5
      refine h5.mono ?_
      rintro e w' ⟨A, c, rfl, hg, ho⟩
      rw [HM.out] at ho ⊢
      exact ⟨A, c, rfl, hg, ho⟩)
    have HSD := Lib.hid (show ∀ A B c d w, Ints w A (D) → Ints w B (D) → Calls Try.prog 37 #[.slice A k c, .slice B k d] w (fun e w' => e = .returned (.bool true) ∧ ∃ m, w' = w.drewN m) from fun A B c d w h h2 => by
      rw [← HK.out]; exact same_any A B c d (D) w h h2 (by rw [HK.out] at hD4; rw [HK.out]; exact hD4))
    have HSF := Lib.hid (show ∀ A B c d w, Ints w A (F) → Ints w B (F) → Calls Try.prog 37 #[.slice A m c, .slice B m d] w (fun e w' => e = .returned (.bool true) ∧ ∃ m, w' = w.drewN m) from fun A B c d w h h2 => by
      rw [← HM.out]; exact same_any A B c d (F) w h h2 (by rw [HM.out] at hF4; rw [HM.out]; exact hF4))
    clear hI3 hI4 hk hm HN1 HN2 HP1 HP2
    go_wp2_with fail
    refine (HQ1.out _ HZ5.out HV.out).mono ?_
    rintro e w10 ⟨A9, c9, rfl, hg, ho⟩
    have HG := Lib.hid (HG.out.trans hg)
    have HU := Lib.hid (HU.out.grown0 hg)
    have HV := Lib.hid (HV.out.grown0 hg)
    have HZ5 := Lib.hid (HZ5.out.grown0 hg)
    have HZ7 := Lib.hid (HZ7.out.grown0 hg)
    have HZ6 := Lib.hid (HZ6.out.grown hg (by simp))
    have HZ8 := Lib.hid (HZ8.out.grown hg (by simp))
    have HI3 := Lib.hid (HI3.out.grown hg (by simp))
    have HI4 := Lib.hid (HI4.out.grown hg (by simp))
    have HZ9 := Lib.hid (Ints.of_own (zs := D) (by rw [HK.out]; exact ho))
    clear hg ho
    go_wp2_with fail
    refine (HQ2.out _ HU.out HZ7.out).mono ?_
    rintro e w11 ⟨B1, d1, rfl, hg, ho⟩
    have HG := Lib.hid (HG.out.trans hg)
    have HU := Lib.hid (HU.out.grown0 hg)
    have HV := Lib.hid (HV.out.grown0 hg)
    have HZ5 := Lib.hid (HZ5.out.grown0 hg)
    have HZ7 := Lib.hid (HZ7.out.grown0 hg)
    have HZ6 := Lib.hid (HZ6.out.grown hg (by simp))
    have HZ8 := Lib.hid (HZ8.out.grown hg (by simp))
    have HI3 := Lib.hid (HI3.out.grown hg (by simp))
    have HI4 := Lib.hid (HI4.out.grown hg (by simp))
    have HZ9 := Lib.hid (HZ9.out.grown hg (by simp))
    have HZA := Lib.hid (Ints.of_own (zs := scatR D F) (by rw [HZ.out]; exact ho))
    clear hg ho
    go_wp2_with fail
    refine (HQ3.out _ HZ7.out).mono ?_
    rintro e w12 ⟨B2, d2, rfl, hg, ho⟩
    have HG := Lib.hid (HG.out.trans hg)
    have HU := Lib.hid (HU.out.grown0 hg)
    have HV := Lib.hid (HV.out.grown0 hg)
    have HZ5 := Lib.hid (HZ5.out.grown0 hg)
    have HZ7 := Lib.hid (HZ7.out.grown0 hg)
    have HZ6 := Lib.hid (HZ6.out.grown hg (by simp))
    have HZ8 := Lib.hid (HZ8.out.grown hg (by simp))
    have HI3 := Lib.hid (HI3.out.grown hg (by simp))
    have HI4 := Lib.hid (HI4.out.grown hg (by simp))
    have HZ9 := Lib.hid (HZ9.out.grown hg (by simp))
    have HZA := Lib.hid (HZA.out.grown hg (by simp))
    have HZB := Lib.hid (Ints.of_own (zs := F) (by rw [HM.out]; exact ho))
    clear hg ho
    go_wp2_with fail
    refine (HSD.out _ _ c9 c3 _ HZ9.out HI3.out).mono ?_
    rintro e w13 ⟨rfl, q13, rfl⟩
    have HG := Lib.hid (HG.out.trans (gr_drewN w12 q13 none))
    have HU := Lib.hid (HU.out.grown0 (gr_drewN w12 q13 none))
    have HV := Lib.hid (HV.out.grown0 (gr_drewN w12 q13 none))
    have HZ5 := Lib.hid (HZ5.out.grown0 (gr_drewN w12 q13 none))
    have HZ7 := Lib.hid (HZ7.out.grown0 (gr_drewN w12 q13 none))
    have HZ6 := Lib.hid (HZ6.out.grown (gr_drewN w12 q13 none) (by simp))
    have HZ8 := Lib.hid (HZ8.out.grown (gr_drewN w12 q13 none) (by simp))
    have HI3 := Lib.hid (HI3.out.grown (gr_drewN w12 q13 none) (by simp))
    have HI4 := Lib.hid (HI4.out.grown (gr_drewN w12 q13 none) (by simp))
    have HZ9 := Lib.hid (HZ9.out.grown (gr_drewN w12 q13 none) (by simp))
    have HZA := Lib.hid (HZA.out.grown (gr_drewN w12 q13 none) (by simp))
    have HZB := Lib.hid (HZB.out.grown (gr_drewN w12 q13 none) (by simp))
    generalize w12.drewN q13 = w13 at HG HU HV HZ5 HZ7 HZ6 HZ8 HI3 HI4 HZ9 HZA HZB ⊢
    go_wp2_with fail
    refine (HS1.out _ _ d1 c5 _ HZA.out (Ints.of_own (zs := scatR D F) (by have h9 := HZ5.out; unfold OwnI at h9; exact h9))).mono ?_
    rintro e w14 ⟨rfl, q14, rfl⟩
    have HG := Lib.hid (HG.out.trans (gr_drewN w13 q14 none))
    have HU := Lib.hid (HU.out.grown0 (gr_drewN w13 q14 none))
    have HV := Lib.hid (HV.out.grown0 (gr_drewN w13 q14 none))
    have HZ5 := Lib.hid (HZ5.out.grown0 (gr_drewN w13 q14 none))
    have HZ7 := Lib.hid (HZ7.out.grown0 (gr_drewN w13 q14 none))
    have HZ6 := Lib.hid (HZ6.out.grown (gr_drewN w13 q14 none) (by simp))
    have HZ8 := Lib.hid (HZ8.out.grown (gr_drewN w13 q14 none) (by simp))
    have HI3 := Lib.hid (HI3.out.grown (gr_drewN w13 q14 none) (by simp))
    have HI4 := Lib.hid (HI4.out.grown (gr_drewN w13 q14 none) (by simp))
    have HZ9 := Lib.hid (HZ9.out.grown (gr_drewN w13 q14 none) (by simp))
    have HZA := Lib.hid (HZA.out.grown (gr_drewN w13 q14 none) (by simp))
    have HZB := Lib.hid (HZB.out.grown (gr_drewN w13 q14 none) (by simp))
    generalize w13.drewN q14 = w14 at HG HU HV HZ5 HZ7 HZ6 HZ8 HI3 HI4 HZ9 HZA HZB ⊢
    go_wp2_with fail
    refine (HSF.out _ _ d2 c4 _ HZB.out HI4.out).mono ?_
    rintro e w15 ⟨rfl, q15, rfl⟩
    have HG := Lib.hid (HG.out.trans (gr_drewN w14 q15 none))
    have HU := Lib.hid (HU.out.grown0 (gr_drewN w14 q15 none))
    have HV := Lib.hid (HV.out.grown0 (gr_drewN w14 q15 none))
    have HZ5 := Lib.hid (HZ5.out.grown0 (gr_drewN w14 q15 none))
    have HZ7 := Lib.hid (HZ7.out.grown0 (gr_drewN w14 q15 none))
    have HZ6 := Lib.hid (HZ6.out.grown (gr_drewN w14 q15 none) (by simp))
    have HZ8 := Lib.hid (HZ8.out.grown (gr_drewN w14 q15 none) (by simp))
    have HI3 := Lib.hid (HI3.out.grown (gr_drewN w14 q15 none) (by simp))
    have HI4 := Lib.hid (HI4.out.grown (gr_drewN w14 q15 none) (by simp))
    have HZ9 := Lib.hid (HZ9.out.grown (gr_drewN w14 q15 none) (by simp))
    have HZA := Lib.hid (HZA.out.grown (gr_drewN w14 q15 none) (by simp))
    have HZB := Lib.hid (HZB.out.grown (gr_drewN w14 q15 none) (by simp))
    generalize w14.drewN q15 = w15 at HG HU HV HZ5 HZ7 HZ6 HZ8 HI3 HI4 HZ9 HZA HZB ⊢
    go_wp2_with fail
    go_ret
    exact ⟨rfl, HG.out⟩

set_option maxRecDepth 100000 in
theorem dscatter_lifted (os : Os) (started : os.Started) (H : Type) (enc : TypeId × Value → H) :
    ReturnsInHanded {} Try.checked os 12 .any (Rows.fnScatterSpec.pre6 enc Try.prog Try.f12 Rows.fnScatterRow.domain false) (Rows.fnScatterSpec.post enc Try.prog Try.f12 false true false false) := by
  refine returnsInHanded_of_change (C := Try.checked) knob_own started (by kernel_rfl) Try.func12
    (ChangeSpec.witness6 (enc := enc) (C := Try.checked) false ⟨#[], #[.slice none 0 0], []⟩ 8 (by kernel_rfl) (by kernel_rfl) (by kernel_rfl) (by kernel_rfl)) ?_
  intro W base args ds gs before hval0 hW hcnd _
  have hval : ∀ (j : Nat) t v, Try.f12.params[j]? = some t → args[j]? = some v → Value.okWide Try.prog W .any base t v := hval0
  have hW' := hW
  obtain ⟨p, q, hA0, hV, rfl, hfz, hnd⟩ := hW
  have hA : DataW.TrodAll enc Try.prog W 0 (fun _ => true) true Try.f12.params.toList args.toList ds p := hA0
  rw [Try.params12] at hA hval
  obtain ⟨v0, d0, rfl, rfl, h0⟩ := trodAll_one hA
  obtain ⟨rfl, rfl⟩ := trodVars_none hV
  obtain ⟨A, n, c, rfl, a1, a2, a3⟩ := open_byts (hval 0 34 v0 rfl rfl) h0
  clear hA0 hval0
  simp only [List.append_nil] at hW'
  have hlt : ∀ x ∈ p, x.block < W.heap.size := fun x hx => by simpa using hW'.lt x hx
  refine (law_dscatter A n c W a3 a1 a2).mono fun e W' ⟨he, hg⟩ => ?_
  subst he
  refine ⟨_, rfl, _, _, _, [], p, [], hW', ?_, ?_, rfl, (below_of hg).frame _, fun h => by cases h⟩
  · exact trodAll_mk1 (shut_bool Try.underlying4 _)
  · exact trodAll_mk1 (Below.trod laid_out (by kernel_rfl) (of_decide_eq_true (by kernel_rfl)) h0 (below_of hg) hlt)

theorem dscatter_holds : Rows.FnScatterSaid :=
  OpenClaim.holds_of_wide 12 Try.f12 rfl rfl rfl rfl rfl rfl rfl ⟨rfl, rfl, rfl, rfl, rfl⟩ rfl rfl rfl rfl rfl fdscatter_name Try.func12 fdscatter_all fdscatter_inst fdscatter_wrap
    (fun os started H enc _ => (dscatter_lifted os started H enc))

#print axioms dscatter_holds

end Go.Proofs.Ytpakihjkjdanlaa
