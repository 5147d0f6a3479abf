/- The law FnSpread: whatever the input, true. -/
import Derived.Test.YtbideeajdhejoaaTotal
import Derived.Test.YtbideeajdhejoaaBothspread
import Derived.Test.YtbideeajdhejoaaMostP
import Derived.Test.YtbideeajdhejoaaCountI
import Derived.Test.YtbideeajdhejoaaStartsI
import Derived.Test.YtbideeajdhejoaaPairP
import Derived.Test.YtbideeajdhejoaaLeav
import Derived.Test.YtbideeajdhejoaaGdspreadd
namespace Go.Proofs.Ytbideeajdhejoaa
open Go.ChangeShapes Go.WideShapes Go.ChangeAt Go.RowKit

theorem spread_segs {L V : List Int} (hs : spreadB L V = true) : segsB L (spreadR L V) = true := by
  obtain ⟨hl, hv, hok⟩ := spreadB_get hs
  obtain ⟨h4, hlo, hs4, _⟩ := lensB_get hl
  have hlen := genI_len (spreadF V) L 0 hlo
  rw [spreadR, if_pos hs, segsB, hl]
  have hall : okN 10006 (genI (spreadF V) 0 L) = true := okN_all (fun x hx => by
    obtain ⟨j, k, hj, rfl⟩ := genI_mem (spreadF V) L 0 x hx
    have : (0 + j) < V.length := by omega
    rw [spreadF, List.getD_eq_getElem?_getD, List.getElem?_eq_getElem this]
    exact okN_at (List.getElem?_eq_getElem this) hok)
  simp [hlen, hall]

theorem spread_pure {L V : List Int} (hs : spreadB L V = true) {i : Nat} {z : Int} (hz : L[i]? = some z) :
    ∃ (s q : Nat) (x y : Int), z = (q : Int) ∧ s + q ≤ (upR L).length ∧ (startsR L)[i]? = some (s : Int) ∧ V[i]? = some x ∧ (mostR L (spreadR L V))[i]? = some y ∧ (0 < q → y = x) ∧ ∀ k, k < q → (upR L)[s + k]? = some (k : Int) := by
  obtain ⟨hl, hv, hok⟩ := spreadB_get hs
  obtain ⟨h4, hlo, hs4, _⟩ := lensB_get hl
  obtain ⟨s, q, M, rfl, h1, h2, h3, _, h5, h6⟩ := most_pure (spread_segs hs) hz
  have hil : i < L.length := (List.getElem?_eq_some_iff.1 hz).1
  obtain ⟨x, hx⟩ : ∃ x, V[i]? = some x := ⟨_, List.getElem?_eq_getElem (by omega)⟩
  have hst : (s : Int) = sumI (L.take i) := by
    have := startsI_at L 0 i _ hz
    rw [startsR, if_pos hl, this] at h2
    simp only [Option.some.injEq] at h2
    omega
  have hsn : (sumI (L.take i)).toNat = s := by omega
  have e1 := genI_seg (spreadF V) L 0 i _ hlo hz
  have e2 := genI_seg upF L 0 i _ hlo hz
  rw [hsn, Int.toNat_natCast] at e1 e2
  have hlen := genI_len upF L 0 hlo
  obtain ⟨_, _, _, hle⟩ := sumI_le hlo hz
  refine ⟨s, q, x, M, rfl, ?_, h2, hx, h3, ?_, ?_⟩
  · rw [upR, if_pos hl]; omega
  · intro hq
    have hm := h6 hq
    rw [spreadR, if_pos hs, e1, List.mem_map] at hm
    obtain ⟨k, _, rfl⟩ := hm
    rw [spreadF, Nat.zero_add, List.getD_eq_getElem?_getD, hx]
    rfl
  · intro k hk
    have : ((genI upF 0 L).drop s |>.take q)[k]? = ((List.range q).map (upF (0 + i)))[k]? := by rw [e2]
    rw [List.getElem?_take, if_pos hk, List.getElem?_drop] at this
    rw [upR, if_pos hl, this]
    simp [hk, upF]

theorem spreadR_le {L V : List Int} : (spreadR L V).length ≤ 1048576 := by
  by_cases h : spreadB L V = true
  · have hs := spread_segs h
    obtain ⟨hl, hd, _⟩ := segsB_get hs
    have := (lensB_get hl).2.2.1
    omega
  · rw [spreadR, if_neg h]; simp
theorem upR_le {L : List Int} : (upR L).length ≤ 1048576 := by
  by_cases h : lensB L = true
  · have h2 := genI_len upF L 0 (lensB_get h).2.1
    have := (lensB_get h).2.2.1
    rw [upR, if_pos h]
    omega
  · rw [upR, if_neg h]; simp
theorem startsR_le {L : List Int} : (startsR L).length ≤ 1048576 := by
  by_cases h : lensB L = true
  · have := (lensB_get h).1
    rw [startsR, if_pos h, startsI_len]
    omega
  · rw [startsR, if_neg h]; simp

set_option maxRecDepth 100000 in
set_option maxHeartbeats 16000000 in
theorem law_dspreadd (A : Option Addr) (n c : Nat) (w : World) (hB : Byts w A n) (hc : n ≤ c) (hn : n ≤ 9223372036854775807) :
    Calls Try.prog 11 #[.slice A n c] w fun e w' => e = .returned (.bool true) ∧ w.grownBy w' none := by
  by_cases h1 : 1048576 < n
  · clear hB
    go_enter Try.func11, Try.ntmps11
    go_wp2_with fail
    go_ret
    exact ⟨rfl, gr_refl _ _⟩
  have HD := Lib.hid (drawspread_any A n c w hB hc hn)
  clear hB hc
  go_enter Try.func11, Try.ntmps11
  go_wp2_with fail
  refine HD.out.mono ?_
  rintro e w1 ⟨u, v, L, D, rfl, hu, hv, hL, hD, hg⟩
  have hL4 : L.length ≤ 1048576 := by omega
  have hD4 : D.length ≤ 1048576 := by omega
  obtain ⟨z, hz⟩ : ∃ z, (spreadR L D).length = z := ⟨_, rfl⟩
  obtain ⟨y, hy⟩ : ∃ y, (upR L).length = y := ⟨_, rfl⟩
  obtain ⟨x, hx⟩ : ∃ x, (startsR L).length = x := ⟨_, rfl⟩
  obtain ⟨m, hm⟩ : ∃ m, (mostR L (spreadR L D)).length = m := ⟨_, rfl⟩
  obtain ⟨R, hR⟩ : ∃ R, spreadB L D = R := ⟨_, rfl⟩
  obtain ⟨R2, hR2⟩ : ∃ R, lensB L = R := ⟨_, rfl⟩
  obtain ⟨R3, hR3⟩ : ∃ R, segsB L (spreadR L D) = R := ⟨_, rfl⟩
  have HM1 := Lib.hid (show ∀ w, OwnI w u L → OwnI w v D → Calls Try.prog 46 #[u, v] w (fun e w' => ∃ A c, e = .returned (.tuple #[.slice A z c, .bool R]) ∧ w.grownBy w' none ∧ w'.ownsRow w.heap.size 3 1 (.slice A z c) z ((spreadR L D).map (Value.int .i64))) from fun w h0 h1 => by
    rw [← hz, ← hR]; exact spread_impl u v L D w h0 h1 hL4 hD4)
  have HM2 := Lib.hid (show ∀ w, OwnI w u L → OwnI w v D → Calls Try.prog 45 #[u, v] w (fun e w' => ∃ A c, e = .returned (.tuple #[.slice A z c, .bool R]) ∧ w.grownBy w' none ∧ w'.ownsRow w.heap.size 3 1 (.slice A z c) z ((spreadR L D).map (Value.int .i64))) from fun w h0 h1 => by
    rw [← hz, ← hR]; exact sspread_spec u v L D w h0 h1 hL4 hD4)
  have HM3 := Lib.hid (show ∀ w, OwnI w u L → Calls Try.prog 49 #[u] w (fun e w' => ∃ A c, e = .returned (.tuple #[.slice A y c, .bool R2]) ∧ w.grownBy w' none ∧ w'.ownsRow w.heap.size 3 1 (.slice A y c) y ((upR L).map (Value.int .i64))) from fun w h0 => by
    rw [← hy, ← hR2]; exact countup_impl u L w h0 hL4)
  have HM4 := Lib.hid (show ∀ w, OwnI w u L → Calls Try.prog 50 #[u] w (fun e w' => ∃ A c, e = .returned (.tuple #[.slice A y c, .bool R2]) ∧ w.grownBy w' none ∧ w'.ownsRow w.heap.size 3 1 (.slice A y c) y ((upR L).map (Value.int .i64))) from fun w h0 => by
    rw [← hy, ← hR2]; exact scountup_spec u L w h0 hL4)
  have HM5 := Lib.hid (show ∀ w, OwnI w u L → Calls Try.prog 51 #[u] w (fun e w' => ∃ A c, e = .returned (.tuple #[.slice A x c, .bool R2]) ∧ w.grownBy w' none ∧ w'.ownsRow w.heap.size 3 1 (.slice A x c) x ((startsR L).map (Value.int .i64))) from fun w h0 => by
    rw [← hx, ← hR2]; exact starts_impl u L w h0 hL4)
  have HM6 := Lib.hid (show ∀ w, OwnI w u L → Calls Try.prog 52 #[u] w (fun e w' => ∃ A c, e = .returned (.tuple #[.slice A x c, .bool R2]) ∧ w.grownBy w' none ∧ w'.ownsRow w.heap.size 3 1 (.slice A x c) x ((startsR L).map (Value.int .i64))) from fun w h0 => by
    rw [← hx, ← hR2]; exact sstartsof_spec u L w h0 hL4)
  have HM7 := Lib.hid (show ∀ w p, OwnI w u L → OwnI w p (spreadR L D) → Calls Try.prog 53 #[u, p] w (fun e w' => ∃ A c, e = .returned (.tuple #[.slice A m c, .bool R3]) ∧ w.grownBy w' none ∧ w'.ownsRow w.heap.size 3 1 (.slice A m c) m ((mostR L (spreadR L D)).map (Value.int .i64))) from fun w p h0 h1 => by
    rw [← hm, ← hR3]; exact most_impl u p L (spreadR L D) w h0 h1 hL4 spreadR_le)
  have HS1 := Lib.hid (show ∀ A B c d w, Ints w A (spreadR L D) → Ints w B (spreadR L D) → Calls Try.prog 44 #[.slice A z c, .slice B z d] w (fun e w' => e = .returned (.bool true) ∧ ∃ m, w' = w.drewN m) from fun A B c d w h h2 => by
    rw [← hz]; exact same_any A B c d (spreadR L D) w h h2 spreadR_le)
  have HS2 := Lib.hid (show ∀ A B c d w, Ints w A (upR L) → Ints w B (upR L) → Calls Try.prog 44 #[.slice A y c, .slice B y d] w (fun e w' => e = .returned (.bool true) ∧ ∃ m, w' = w.drewN m) from fun A B c d w h h2 => by
    rw [← hy]; exact same_any A B c d (upR L) w h h2 upR_le)
  have HS3 := Lib.hid (show ∀ A B c d w, Ints w A (startsR L) → Ints w B (startsR L) → Calls Try.prog 44 #[.slice A x c, .slice B x d] w (fun e w' => e = .returned (.bool true) ∧ ∃ m, w' = w.drewN m) from fun A B c d w h h2 => by
    rw [← hx]; exact same_any A B c d (startsR L) w h h2 startsR_le)
  have HZ := Lib.hid hz
  have HY := Lib.hid hy
  have HX := Lib.hid hx
  have HM := Lib.hid hm
  have HR := Lib.hid hR
  have HR2 := Lib.hid hR2
  have HU := Lib.hid hu
  have HV := Lib.hid hv
  have HG := Lib.hid hg
  have hRR : (R != R) = false := by simp
  have hRR' : (R == R) = true := by simp
  clear hu hv hg HD hz hy hx hm hR hR2 hR3
  go_wp2_with fail
  refine (HM1.out _ HU.out HV.out).mono ?_
  rintro e w2 ⟨A5, c5, rfl, hg, ho⟩
  have HG := Lib.hid (HG.out.trans hg)
  have HU := Lib.hid (HU.out.grown0 hg)
  have HV := Lib.hid (HV.out.grown0 hg)
  have HZ5 := Lib.hid (OwnI.of ho HZ.out)
  clear hg ho HM1
  go_wp2_with fail
  refine (HM2.out _ HU.out HV.out).mono ?_
  rintro e w3 ⟨A6, c6, rfl, hg, ho⟩
  have HG := Lib.hid (HG.out.trans hg)
  have HU := Lib.hid (HU.out.grown0 hg)
  have HV := Lib.hid (HV.out.grown0 hg)
  have HZ5 := Lib.hid (HZ5.out.grown0 hg)
  have HZ6 := Lib.hid (Ints.of_own (zs := spreadR L D) (by rw [HZ.out]; exact ho))
  clear hg ho HM2
  go_wp2_with fail
  refine (HM3.out _ HU.out).mono ?_
  rintro e w4 ⟨A7, c7, rfl, hg, ho⟩
  have HG := Lib.hid (HG.out.trans hg)
  have HU := Lib.hid (HU.out.grown0 hg)
  have HV := Lib.hid (HV.out.grown0 hg)
  have HZ5 := Lib.hid (HZ5.out.grown0 hg)
  have HZ6 := Lib.hid (HZ6.out.grown hg (by simp))
  have HZ7 := Lib.hid (Ints.of_own (zs := upR L) (by rw [HY.out]; exact ho))
  clear hg ho HM3
  go_wp2_with fail
  refine (HM4.out _ HU.out).mono ?_
  rintro e w5 ⟨A8, c8, rfl, hg, ho⟩
  have HG := Lib.hid (HG.out.trans hg)
  have HU := Lib.hid (HU.out.grown0 hg)
  have HV := Lib.hid (HV.out.grown0 hg)
  have HZ5 := Lib.hid (HZ5.out.grown0 hg)
  have HZ6 := Lib.hid (HZ6.out.grown hg (by simp))
  have HZ7 := Lib.hid (HZ7.out.grown hg (by simp))
  have HZ8 := Lib.hid (Ints.of_own (zs := upR L) (by rw [HY.out]; exact ho))
  clear hg ho HM4
  go_wp2_with fail
  refine (HM5.out _ HU.out).mono ?_
  rintro e w6 ⟨A9, c9, rfl, hg, ho⟩
  have HG := Lib.hid (HG.out.trans hg)
  have HU := Lib.hid (HU.out.grown0 hg)
  have HV := Lib.hid (HV.out.grown0 hg)
  have HZ5 := Lib.hid (HZ5.out.grown0 hg)
  have HZ6 := Lib.hid (HZ6.out.grown hg (by simp))
  have HZ7 := Lib.hid (HZ7.out.grown hg (by simp))
  have HZ8 := Lib.hid (HZ8.out.grown hg (by simp))
  have HZ9 := Lib.hid (Ints.of_own (zs := startsR L) (by rw [HX.out]; exact ho))
  clear hg ho HM5
  go_wp2_with fail
  refine (HM6.out _ HU.out).mono ?_
  rintro e w7 ⟨A10, c10, rfl, hg, ho⟩
  have HG := Lib.hid (HG.out.trans hg)
  have HU := Lib.hid (HU.out.grown0 hg)
  have HV := Lib.hid (HV.out.grown0 hg)
  have HZ5 := Lib.hid (HZ5.out.grown0 hg)
  have HZ6 := Lib.hid (HZ6.out.grown hg (by simp))
  have HZ7 := Lib.hid (HZ7.out.grown hg (by simp))
  have HZ8 := Lib.hid (HZ8.out.grown hg (by simp))
  have HZ9 := Lib.hid (HZ9.out.grown hg (by simp))
  have HZ10 := Lib.hid (Ints.of_own (zs := startsR L) (by rw [HX.out]; exact ho))
  clear hg ho HM6
  go_wp2_with fail
  refine (HS1.out _ _ c5 c6 _ (Ints.of_own (zs := spreadR L D) (by have := HZ5.out; rw [OwnI, HZ.out] at this; rw [HZ.out]; exact this)) HZ6.out).mono ?_
  rintro e w8 ⟨rfl, q8, rfl⟩
  have HG := Lib.hid (HG.out.trans (gr_drewN w7 q8 none))
  have HU := Lib.hid (HU.out.grown0 (gr_drewN w7 q8 none))
  have HV := Lib.hid (HV.out.grown0 (gr_drewN w7 q8 none))
  have HZ5 := Lib.hid (HZ5.out.grown0 (gr_drewN w7 q8 none))
  have HZ6 := Lib.hid (HZ6.out.grown (gr_drewN w7 q8 none) (by simp))
  have HZ7 := Lib.hid (HZ7.out.grown (gr_drewN w7 q8 none) (by simp))
  have HZ8 := Lib.hid (HZ8.out.grown (gr_drewN w7 q8 none) (by simp))
  have HZ9 := Lib.hid (HZ9.out.grown (gr_drewN w7 q8 none) (by simp))
  have HZ10 := Lib.hid (HZ10.out.grown (gr_drewN w7 q8 none) (by simp))
  generalize w7.drewN q8 = w8 at HG HU HV HZ5 HZ6 HZ7 HZ8 HZ9 HZ10 ⊢
  go_wp2_with fail
  refine (HS2.out _ _ c7 c8 _ HZ7.out HZ8.out).mono ?_
  rintro e w9 ⟨rfl, q9, rfl⟩
  have HG := Lib.hid (HG.out.trans (gr_drewN w8 q9 none))
  have HU := Lib.hid (HU.out.grown0 (gr_drewN w8 q9 none))
  have HV := Lib.hid (HV.out.grown0 (gr_drewN w8 q9 none))
  have HZ5 := Lib.hid (HZ5.out.grown0 (gr_drewN w8 q9 none))
  have HZ6 := Lib.hid (HZ6.out.grown (gr_drewN w8 q9 none) (by simp))
  have HZ7 := Lib.hid (HZ7.out.grown (gr_drewN w8 q9 none) (by simp))
  have HZ8 := Lib.hid (HZ8.out.grown (gr_drewN w8 q9 none) (by simp))
  have HZ9 := Lib.hid (HZ9.out.grown (gr_drewN w8 q9 none) (by simp))
  have HZ10 := Lib.hid (HZ10.out.grown (gr_drewN w8 q9 none) (by simp))
  generalize w8.drewN q9 = w9 at HG HU HV HZ5 HZ6 HZ7 HZ8 HZ9 HZ10 ⊢
  go_wp2_with fail
  refine (HS3.out _ _ c9 c10 _ HZ9.out HZ10.out).mono ?_
  rintro e w10 ⟨rfl, q10, rfl⟩
  have HG := Lib.hid (HG.out.trans (gr_drewN w9 q10 none))
  have HU := Lib.hid (HU.out.grown0 (gr_drewN w9 q10 none))
  have HV := Lib.hid (HV.out.grown0 (gr_drewN w9 q10 none))
  have HZ5 := Lib.hid (HZ5.out.grown0 (gr_drewN w9 q10 none))
  have HZ6 := Lib.hid (HZ6.out.grown (gr_drewN w9 q10 none) (by simp))
  have HZ7 := Lib.hid (HZ7.out.grown (gr_drewN w9 q10 none) (by simp))
  have HZ8 := Lib.hid (HZ8.out.grown (gr_drewN w9 q10 none) (by simp))
  have HZ9 := Lib.hid (HZ9.out.grown (gr_drewN w9 q10 none) (by simp))
  have HZ10 := Lib.hid (HZ10.out.grown (gr_drewN w9 q10 none) (by simp))
  generalize w9.drewN q10 = w10 at HG HU HV HZ5 HZ6 HZ7 HZ8 HZ9 HZ10 ⊢
  cases R with
  | false =>
    go_wp2_with fail
    refine (HS1.out _ _ c5 c6 _ (Ints.of_own (zs := spreadR L D) (by have := HZ5.out; rw [OwnI, HZ.out] at this; rw [HZ.out]; exact this)) HZ6.out).mono ?_
    rintro e w11 ⟨rfl, q11, rfl⟩
    have HG := Lib.hid (HG.out.trans (gr_drewN w10 q11 none))
    have HU := Lib.hid (HU.out.grown0 (gr_drewN w10 q11 none))
    have HV := Lib.hid (HV.out.grown0 (gr_drewN w10 q11 none))
    have HZ5 := Lib.hid (HZ5.out.grown0 (gr_drewN w10 q11 none))
    have HZ6 := Lib.hid (HZ6.out.grown (gr_drewN w10 q11 none) (by simp))
    have HZ7 := Lib.hid (HZ7.out.grown (gr_drewN w10 q11 none) (by simp))
    have HZ8 := Lib.hid (HZ8.out.grown (gr_drewN w10 q11 none) (by simp))
    have HZ9 := Lib.hid (HZ9.out.grown (gr_drewN w10 q11 none) (by simp))
    have HZ10 := Lib.hid (HZ10.out.grown (gr_drewN w10 q11 none) (by simp))
    generalize w10.drewN q11 = w11 at HG HU HV HZ5 HZ6 HZ7 HZ8 HZ9 HZ10 ⊢
    go_wp2_with fail
    refine (HS2.out _ _ c7 c8 _ HZ7.out HZ8.out).mono ?_
    rintro e w12 ⟨rfl, q12, rfl⟩
    have HG := Lib.hid (HG.out.trans (gr_drewN w11 q12 none))
    have HU := Lib.hid (HU.out.grown0 (gr_drewN w11 q12 none))
    have HV := Lib.hid (HV.out.grown0 (gr_drewN w11 q12 none))
    have HZ5 := Lib.hid (HZ5.out.grown0 (gr_drewN w11 q12 none))
    have HZ6 := Lib.hid (HZ6.out.grown (gr_drewN w11 q12 none) (by simp))
    have HZ7 := Lib.hid (HZ7.out.grown (gr_drewN w11 q12 none) (by simp))
    have HZ8 := Lib.hid (HZ8.out.grown (gr_drewN w11 q12 none) (by simp))
    have HZ9 := Lib.hid (HZ9.out.grown (gr_drewN w11 q12 none) (by simp))
    have HZ10 := Lib.hid (HZ10.out.grown (gr_drewN w11 q12 none) (by simp))
    generalize w11.drewN q12 = w12 at HG HU HV HZ5 HZ6 HZ7 HZ8 HZ9 HZ10 ⊢
    go_wp2_with fail
    refine (HS3.out _ _ c9 c10 _ HZ9.out HZ10.out).mono ?_
    rintro e w13 ⟨rfl, q13, rfl⟩
    have HG := Lib.hid (HG.out.trans (gr_drewN w12 q13 none))
    have HU := Lib.hid (HU.out.grown0 (gr_drewN w12 q13 none))
    have HV := Lib.hid (HV.out.grown0 (gr_drewN w12 q13 none))
    have HZ5 := Lib.hid (HZ5.out.grown0 (gr_drewN w12 q13 none))
    have HZ6 := Lib.hid (HZ6.out.grown (gr_drewN w12 q13 none) (by simp))
    have HZ7 := Lib.hid (HZ7.out.grown (gr_drewN w12 q13 none) (by simp))
    have HZ8 := Lib.hid (HZ8.out.grown (gr_drewN w12 q13 none) (by simp))
    have HZ9 := Lib.hid (HZ9.out.grown (gr_drewN w12 q13 none) (by simp))
    have HZ10 := Lib.hid (HZ10.out.grown (gr_drewN w12 q13 none) (by simp))
    generalize w12.drewN q13 = w13 at HG HU HV HZ5 HZ6 HZ7 HZ8 HZ9 HZ10 ⊢
    go_wp2_with fail
    go_ret
    exact ⟨rfl, HG.out⟩
  | true =>
    go_wp2_with fail
    refine (HM7.out _ _ HU.out HZ5.out).mono ?_
    rintro e w20 ⟨A11, c11, rfl, hg, ho⟩
    have HG := Lib.hid (HG.out.trans hg)
    have HU := Lib.hid (HU.out.grown0 hg)
    have HV := Lib.hid (HV.out.grown0 hg)
    have HZ5 := Lib.hid (HZ5.out.grown0 hg)
    have HZ6 := Lib.hid (HZ6.out.grown hg (by simp))
    have HZ7 := Lib.hid (HZ7.out.grown hg (by simp))
    have HZ8 := Lib.hid (HZ8.out.grown hg (by simp))
    have HZ9 := Lib.hid (HZ9.out.grown hg (by simp))
    have HZ10 := Lib.hid (HZ10.out.grown hg (by simp))
    have hmj : (mostR L (spreadR L D)).length = L.length := most_len (spread_segs HR.out)
    obtain ⟨j, hjj⟩ : ∃ j, L.length = j := ⟨_, rfl⟩
    have HJ := Lib.hid hjj
    have hlb := (spreadB_get HR.out).1
    have hl4 := lensB_get hlb
    obtain rfl : R2 = true := HR2.out.symm.trans hlb
    obtain rfl : j = m := by rw [← HM.out, hmj, hjj]
    obtain rfl : j = x := by rw [← HX.out, startsR, if_pos hlb, startsI_len, hjj]
    have hsl : ((upR L).length : Int) = sumI L := by rw [upR, if_pos hlb]; exact genI_len upF L 0 hl4.2.1
    have hsl2 : ((spreadR L D).length : Int) = sumI L := (segsB_get (spread_segs HR.out)).2.1
    have hyz : z = y := by have := HZ.out; have := HY.out; omega
    have hz4 : z ≤ 400 := by have := HZ.out; omega
    have hzz : (z : Int) = sumI L := by have := HZ.out; omega
    subst hyz
    have HZ11 := Lib.hid (Ints.of_own (zs := mostR L (spreadR L D)) (by rw [HM.out]; exact ho))
    obtain ⟨A3, c3, rfl, hI3⟩ : ∃ A3 c3, u = .slice A3 j c3 ∧ Ints w20 A3 L := by
      obtain ⟨A3, c3, e, h, _⟩ := HU.out.form
      exact ⟨A3, c3, by rw [e, hjj], h⟩
    obtain ⟨A4, c4, rfl, hI4⟩ : ∃ A4 c4, v = .slice A4 j c4 ∧ Ints w20 A4 D := by
      obtain ⟨A4, c4, e, h, _⟩ := HV.out.form
      exact ⟨A4, c4, by rw [e, (spreadB_get HR.out).2.1, hjj], h⟩
    have HI3 := Lib.hid hI3
    have HI4 := Lib.hid hI4
    have HDL := Lib.hid (show D.length = j by rw [(spreadB_get HR.out).2.1, hjj])
    have HTOT := Lib.hid (show ∀ w', w20.grownBy w' none → Calls Try.prog 54 #[.slice A3 j c3] w' (fun e w2 => e = .returned (.int .i64 (z : Int)) ∧ w2 = w') from fun w' hg => by
      rw [hzz, ← hjj]
      exact total_any A3 c3 L w' (hI3.grown hg (by simp)) hl4.2.1 hl4.1)
    have hj4 : j ≤ 400 := by have := hl4.1; omega
    have hzz' : ((z : Int) == (z : Int)) = true := by simp
    clear hg ho HS1 HS2 HS3 HM7 hI3 hI4 hjj hL hD hlb hl4 hsl hsl2 hzz hmj HU hRR hRR' hL4 hD4 HZ5 HZ6 HZ8 HZ10 HV
    go_wp2_with fail
    go_loopw [113] (fun i wr => ∃ k : Nat, k ≤ j ∧ i = .int .i64 k ∧ Hid (∃ m, wr = w20.drewN m)) (fun i _ => j - (intOf i).toNat)
    case atStart => exact ⟨0, Nat.zero_le _, rfl, Lib.hid ⟨0, rfl⟩⟩
    case round =>
      obtain ⟨k, hk, rfl, hgr⟩ := hrel
      have HGR := Lib.hid (show w20.grownBy wr none by obtain ⟨m, rfl⟩ := hgr.out; exact gr_drewN _ _ _)
      obtain ⟨wo, rfl⟩ : ∃ wo : World, wo = wr := ⟨_, rfl⟩
      by_cases hlt : k < j
      · obtain ⟨x, hx⟩ : ∃ x, L[k]? = some x := ⟨_, List.getElem?_eq_getElem (by have := HJ.out; omega)⟩
        obtain ⟨s, q, x4, x11, rfl, hsq, hst, hV4, hM11, heq, hup⟩ := spread_pure HR.out hx
        rw [HY.out] at hsq
        obtain ⟨b3, o3, rfl, _, hc3⟩ := (HI3.out.grown HGR.out (by simp)) (by have := HJ.out; omega)
        have hcell3 := hc3 k _ hx
        obtain ⟨b4, o4, rfl, _, hc4⟩ := (HI4.out.grown HGR.out (by simp)) (by have := HDL.out; omega)
        have hcell4 := hc4 k _ hV4
        obtain ⟨b11, o11, rfl, _, hc11⟩ := (HZ11.out.grown HGR.out (by simp)) (by have := HM.out; omega)
        have hcell11 := hc11 k _ hM11
        have hx9 : 0 < (startsR L).length := by have := HX.out; omega
        obtain ⟨b9, o9, rfl, _, _⟩ := HZ9.out hx9
        have HC9 := Lib.hid (show ∀ w', w20.grownBy w' none → w'.cell? ⟨b9, o9 + k, none⟩ = some (.int .i64 s) from fun w' hg => by
          obtain ⟨b', o', e, _, h⟩ := (HZ9.out.grown hg (by simp)) hx9
          cases e
          exact h k _ hst)
        have HUP := Lib.hid hup
        have hq4 : q ≤ 400 := by omega
        have hs4 : s ≤ 400 := by omega
        clear hx hst hV4 hM11 hup hc3 hc4 hc11 hx9
        by_cases hq0 : q = 0
        · have hq1 : ¬ (0 : Int) < (q : Int) := by omega
          clear heq
          go_wp2_with fail
          go_quiet (fail)
          go_wp2_with fail
          go_loopw [132] (fun i wr => ∃ t : Nat, t ≤ q ∧ i = .int .i64 t ∧ Hid (∃ m, wr = w20.drewN m)) (fun i _ => q - (intOf i).toNat)
          case atStart => exact ⟨0, Nat.zero_le _, rfl, Lib.hid (by obtain ⟨m, rfl⟩ := hgr.out; exact ⟨m + _, World.drewN_drewN _ _ _⟩)⟩
          case round =>
            obtain ⟨t, ht, rfl, hgr2⟩ := hrel
            have HGR2 := Lib.hid (show w20.grownBy wr none by obtain ⟨m, rfl⟩ := hgr2.out; exact gr_drewN _ _ _)
            obtain ⟨wi, rfl⟩ : ∃ wi : World, wi = wr := ⟨_, rfl⟩
            by_cases hlt2 : t < q
            · exact absurd hlt2 (by omega)
            · go_wp2_with fail
              go_roundw
              case rel => exact ⟨k + 1, by omega, by go_num, hgr2⟩
              case measure => simp [intOf]; omega
        have hq1 : (0 : Int) < (q : Int) := by omega
        have hq2 : 0 < q := by omega
        have hq3 : decide ((0 : Int) < (q : Int)) = true := by simp [hq2]
        obtain rfl : x11 = x4 := heq (by omega)
        have hxx : (x11 != x11) = false := by simp
        clear heq
        go_wp2_with fail
        go_quiet (fail)
        go_wp2_with fail
        go_loopw [132] (fun i wr => ∃ t : Nat, t ≤ q ∧ i = .int .i64 t ∧ Hid (∃ m, wr = w20.drewN m)) (fun i _ => q - (intOf i).toNat)
        case atStart => exact ⟨0, Nat.zero_le _, rfl, Lib.hid (by obtain ⟨m, rfl⟩ := hgr.out; exact ⟨m + _, World.drewN_drewN _ _ _⟩)⟩
        case round =>
          obtain ⟨t, ht, rfl, hgr2⟩ := hrel
          have HGR2 := Lib.hid (show w20.grownBy wr none by obtain ⟨m, rfl⟩ := hgr2.out; exact gr_drewN _ _ _)
          obtain ⟨wi, rfl⟩ : ∃ wi : World, wi = wr := ⟨_, rfl⟩
          by_cases hlt2 : t < q
          · obtain ⟨r, hr⟩ : ∃ r, s + t = r := ⟨_, rfl⟩
            have hrz : r < z := by omega
            have hsum : (s : Int) + (t : Int) = (r : Int) := by omega
            have hw : IntKind.i64.wrap ((s : Int) + (t : Int)) = (r : Int) := by rw [hsum]; exact IntWalk.i64_in _ (by omega)
            have hcell9 := HC9.out wi HGR2.out
            obtain ⟨b7, o7, rfl, _, hc7⟩ := (HZ7.out.grown HGR2.out (by simp)) (by have := HY.out; omega)
            have hcell7 := hc7 r _ (by rw [← hr]; exact HUP.out t hlt2)
            have htt : ((t : Int) != (t : Int)) = false := by simp
            clear hc7 hr
            go_wp2_with fail
            go_roundw
            case rel => exact ⟨t + 1, by omega, by go_num, hgr2⟩
            case measure => simp [intOf]; omega
          · go_wp2_with fail
            go_roundw
            case rel => exact ⟨k + 1, by omega, by go_num, hgr2⟩
            case measure => simp [intOf]; omega
      · go_wp2_with fail
        refine (HTOT.out _ HGR.out).mono ?_
        rintro e w30 ⟨rfl, rfl⟩
        go_wp2_with fail
        go_ret
        exact ⟨rfl, HG.out.trans HGR.out⟩

set_option maxRecDepth 100000 in
theorem dspreadd_lifted (os : Os) (started : os.Started) (H : Type) (enc : TypeId × Value → H) :
    ReturnsInHanded {} Try.checked os 11 .any (Rows.fnSpreadSpec.pre6 enc Try.prog Try.f11 Rows.fnSpreadRow.domain false) (Rows.fnSpreadSpec.post enc Try.prog Try.f11 false true false false) := by
  refine returnsInHanded_of_change (C := Try.checked) knob_own started (by kernel_rfl) Try.func11
    (ChangeSpec.witness6 (enc := enc) (C := Try.checked) false ⟨#[], #[.slice none 0 0], []⟩ 8 (by kernel_rfl) (by kernel_rfl) (by kernel_rfl) (by kernel_rfl)) ?_
  intro W base args ds gs before hval0 hW hcnd _
  have hval : ∀ (j : Nat) t v, Try.f11.params[j]? = some t → args[j]? = some v → Value.okWide Try.prog W .any base t v := hval0
  have hW' := hW
  obtain ⟨p, q, hA0, hV, rfl, hfz, hnd⟩ := hW
  have hA : DataW.TrodAll enc Try.prog W 0 (fun _ => true) true Try.f11.params.toList args.toList ds p := hA0
  rw [Try.params11] at hA hval
  obtain ⟨v0, d0, rfl, rfl, h0⟩ := trodAll_one hA
  obtain ⟨rfl, rfl⟩ := trodVars_none hV
  obtain ⟨A, n, c, rfl, a1, a2, a3⟩ := open_byts (hval 0 57 v0 rfl rfl) h0
  clear hA0 hval0
  simp only [List.append_nil] at hW'
  have hlt : ∀ x ∈ p, x.block < W.heap.size := fun x hx => by simpa using hW'.lt x hx
  refine (law_dspreadd A n c W a3 a1 a2).mono fun e W' ⟨he, hg⟩ => ?_
  subst he
  refine ⟨_, rfl, _, _, _, [], p, [], hW', ?_, ?_, rfl, (below_of hg).frame _, fun h => by cases h⟩
  · exact trodAll_mk1 (shut_bool Try.underlying4 _)
  · exact trodAll_mk1 (Below.trod laid_out (by kernel_rfl) (of_decide_eq_true (by kernel_rfl)) h0 (below_of hg) hlt)

theorem dspreadd_holds : Rows.FnSpreadSaid :=
  OpenClaim.holds_of_wide 11 Try.f11 rfl rfl rfl rfl rfl rfl rfl ⟨rfl, rfl, rfl, rfl, rfl⟩ rfl rfl rfl rfl rfl fdspreadd_name Try.func11 fdspreadd_all fdspreadd_inst fdspreadd_wrap
    (fun os started H enc _ => dspreadd_lifted os started H enc)

#print axioms dspreadd_holds

end Go.Proofs.Ytbideeajdhejoaa
