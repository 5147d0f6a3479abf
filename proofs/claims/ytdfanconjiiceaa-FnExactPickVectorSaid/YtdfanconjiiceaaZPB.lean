/- 12 texts in one: Seg STot SInn SMade SStr SPick SPickN SPickA SPickR OwnV SPickV TovQ. -/
import Derived.Test.YtdfanconjiiceaaFam
import Derived.Test.YtdfanconjiiceaaZPA
import Derived.Test.YtdfanconjiiceaaOwnI
import Derived.Test.YtdfanconjiiceaaPr
import Derived.Test.YtdfanconjiiceaaIn
import Derived.Test.YtdfanconjiiceaaVecOk
import Derived.Test.YtdfanconjiiceaaVctQ
import Derived.Test.YtdfanconjiiceaaVec
namespace Go.Proofs.Ytdfanconjiiceaa
/- Seg -/
section

/-- Are these the lengths of not too much data? -/
def lensB (L : List Int) : Bool := decide (L.length ≤ 400) && (okN 400 L && decide (sumI L ≤ 400))
/-- Do lengths and data fit? -/
def segsB (L D : List Int) : Bool := lensB L && (decide ((D.length : Int) = sumI L) && okN 10006 D)
theorem lensB_mk {L : List Int} (h1 : L.length ≤ 400) (h2 : okN 400 L = true) (h3 : sumI L ≤ 400) : lensB L = true := by simp [lensB, h1, h2, h3]
theorem lensB_get {L : List Int} (h : lensB L = true) : L.length ≤ 400 ∧ okN 400 L = true ∧ sumI L ≤ 400 ∧ 0 ≤ sumI L := by
  simp only [lensB, Bool.and_eq_true, decide_eq_true_eq] at h
  exact ⟨h.1, h.2.1, h.2.2, (sumI_bound h.2.1).1⟩
theorem segsB_get {L D : List Int} (h : segsB L D = true) : lensB L = true ∧ (D.length : Int) = sumI L ∧ okN 10006 D = true := by
  simp only [segsB, Bool.and_eq_true, decide_eq_true_eq] at h
  exact h

/-- The segments of data. -/
def cutI : List Int → List Int → List (List Int)
  | [], _ => []
  | z :: L, D => D.take z.toNat :: cutI L (D.drop z.toNat)
theorem cutI_len : ∀ (L D : List Int), (cutI L D).length = L.length
  | [], _ => rfl
  | z :: L, D => by simp [cutI, cutI_len L]
theorem cutI_at : ∀ (L D : List Int) (j : Nat) (z : Int), okN 400 L = true → L[j]? = some z → (cutI L D)[j]? = some ((D.drop (sumI (L.take j)).toNat).take z.toNat)
  | [], _, _, _, _, h => by simp at h
  | y :: L, D, 0, z, _, h => by
    simp only [List.getElem?_cons_zero, Option.some.injEq] at h
    subst h
    simp [cutI, sumI]
  | y :: L, D, j + 1, z, hok, h => by
    simp only [okN, Bool.and_eq_true, decide_eq_true_eq] at hok
    have := cutI_at L (D.drop y.toNat) j z hok.2 (by simpa using h)
    simp only [cutI, List.getElem?_cons_succ, this, List.take_succ_cons, sumI, List.drop_drop]
    have hb := sumI_take_bound hok.2 j
    rw [show y.toNat + (sumI (L.take j)).toNat = (y + sumI (L.take j)).toNat from by omega]
/-- The segments are the data. -/
theorem cutI_flat : ∀ (L D : List Int), okN 400 L = true → (D.length : Int) = sumI L → (cutI L D).flatten = D
  | [], D, _, h => by
    simp only [sumI] at h
    obtain rfl := List.eq_nil_of_length_eq_zero (show D.length = 0 by omega)
    rfl
  | z :: L, D, hok, h => by
    simp only [okN, Bool.and_eq_true, decide_eq_true_eq] at hok
    have h0 := (sumI_bound hok.2).1
    simp only [sumI] at h
    rw [cutI, List.flatten_cons, cutI_flat L _ hok.2 (by rw [List.length_drop]; omega), List.take_append_drop]
/-- Where segments begin. -/
def startsI (b : Int) : List Int → List Int
  | [] => []
  | z :: L => b :: startsI (b + z) L
theorem startsI_len : ∀ (L : List Int) (b : Int), (startsI b L).length = L.length
  | [], _ => rfl
  | z :: L, b => by simp [startsI, startsI_len L]
theorem startsI_at : ∀ (L : List Int) (b : Int) (j : Nat) (z : Int), L[j]? = some z → (startsI b L)[j]? = some (b + sumI (L.take j))
  | [], _, _, _, h => by simp at h
  | y :: L, b, 0, z, _ => by simp [startsI, sumI]
  | y :: L, b, j + 1, z, h => by
    have := startsI_at L (b + y) j z (by simpa using h)
    simp only [startsI, List.getElem?_cons_succ, this, List.take_succ_cons, sumI]
    congr 1; omega
theorem at_take {α : Type} {l : List α} {j : Nat} {x : α} (h : l[j]? = some x) : l.take (j + 1) = l.take j ++ [x] := by
  rw [List.take_add_one, h]; rfl
theorem startsI_step {L : List Int} {j : Nat} {z : Int} (h : L[j]? = some z) : (startsI 0 L).take (j + 1) = (startsI 0 L).take j ++ [sumI (L.take j)] := by
  refine at_take ?_
  have := startsI_at L 0 j z h
  simpa using this
/-- Sums of the first lengths are no more than the sum. -/
theorem sumI_le {L : List Int} (h : okN 400 L = true) {j : Nat} {z : Int} (hj : L[j]? = some z) : 0 ≤ z ∧ z ≤ 400 ∧ 0 ≤ sumI (L.take j) ∧ sumI (L.take j) + z ≤ sumI L := by
  have h1 := okN_at hj h
  have h2 := (sumI_take_bound h j).1
  have h3 := sumI_step hj
  have e : sumI L = sumI (L.take (j + 1)) + sumI (L.drop (j + 1)) := by rw [← sumI_append, List.take_append_drop]
  have h4 := (sumI_bound (okN_drop h (j + 1))).1
  omega
end

/- STot -/
section
open Go.RowKit

set_option maxHeartbeats 400000 in
theorem stotal_any (A : Option Addr) (c : Nat) (zs : List Int) (w : World) (h : Ints w A zs) (hok : okN 400 zs = true) (hn : zs.length ≤ 1048576) :
    Calls Try.prog 119 #[.slice A zs.length c] w fun e w' => e = .returned (.int .i64 (sumI zs)) ∧ w = w' := by
  have HS := Lib.hid h
  have HOK := Lib.hid hok
  obtain ⟨n, hnn⟩ : ∃ n, zs.length = n := ⟨_, rfl⟩
  have HN := Lib.hid hnn
  rw [hnn] at hn ⊢
  clear h hnn hok
  go_enter Try.func119, Try.ntmps119
  go_wp2_with fail
  go_loop [3, 8] (fun u i => ∃ (j : Nat) (x : Int), j ≤ n ∧ i = .int .i64 j ∧ u = .int .i64 x ∧ 0 ≤ x ∧ x ≤ 419430400 ∧ Hid (x = sumI (zs.take j))) (fun _ i => n - (intOf i).toNat)
  case atStart => exact ⟨0, 0, Nat.zero_le _, rfl, rfl, by omega, by omega, Lib.hid rfl⟩
  case round =>
    obtain ⟨j, x, hj, rfl, rfl, hx0, hx1, hx⟩ := hrel
    by_cases hlt : j < n
    · obtain ⟨z, hz⟩ : ∃ z, zs[j]? = some z := ⟨_, List.getElem?_eq_getElem (by have := HN.out; omega)⟩
      obtain ⟨b, off, rfl, _, hc⟩ := HS.out (by have := HN.out; omega)
      have hcell := hc j z hz
      have HST := Lib.hid (sumI_step hz)
      have hb := sumI_take_bound HOK.out (j + 1)
      rw [HST.out, ← hx.out] at hb
      obtain ⟨hb0, hb1⟩ := hb
      have hbz := okN_at hz HOK.out
      obtain ⟨hz0, hz1⟩ := hbz
      clear hc hz
      go_wp2_with fail
      go_round
      case rel => exact ⟨j + 1, x + z, by omega, by go_num, by go_num, by omega, by omega, Lib.hid (by rw [HST.out, hx.out])⟩
      case measure => simp [intOf]; omega
    · have hjn : j = n := by omega
      have HJ := Lib.hid hjn
      clear hjn
      go_wp2_with fail
      go_ret
      refine ⟨?_, rfl⟩
      rw [hx.out, HJ.out, ← HN.out, List.take_length]
      rfl
end

/- SInn -/
section
open Go.RowKit

theorem rws_tail {w : World} {A : Option Addr} {L : List Int} {LL : List (List Int)} {c : Nat} (h : Rws w A (L :: LL)) (hc : LL.length + 1 ≤ c) : Rws w (if c = 1 then A else A.map (·.add (1 * 1))) LL := fun hl => by
  obtain ⟨b, off, rfl, hb, hr⟩ := h (by simp)
  rw [if_neg (by omega)]
  refine ⟨b, off + 1, by simp [Addr.add], hb, fun j M hj => ?_⟩
  obtain ⟨Bj, cj, h1, h2, h3⟩ := hr (j + 1) M (by simpa using hj)
  exact ⟨Bj, cj, by rw [show off + 1 + j = off + (j + 1) by omega]; exact h1, h2, h3⟩

set_option maxRecDepth 100000 in
set_option maxHeartbeats 1000000 in
theorem sinner_any (A B : Option Addr) (c e : Nat) (L : List Int) (k : Int) (LL : List (List Int)) (D : List Int) (w : World) (h : Vct w (.agg #[.int .i64 k, .slice A (LL.length + 1) c, .slice B D.length e]) k (L :: LL) D) (hok : okN 400 L = true) (hl : L.length ≤ 1048576) :
    Calls Try.prog 106 #[.agg #[.int .i64 k, .slice A (LL.length + 1) c, .slice B D.length e]] w fun ee w' => ∃ A' c', ee = .returned (.agg #[.int .i64 (sumI L), .slice A' LL.length c', .slice B D.length e]) ∧ w.grownBy w' none ∧ Vct w' (.agg #[.int .i64 (sumI L), .slice A' LL.length c', .slice B D.length e]) (sumI L) LL D := by
  obtain ⟨A', c', B', e', hv, h1, h2, h3, h4⟩ := h
  simp only [Value.agg.injEq, Array.mk.injEq, List.cons.injEq, Value.slice.injEq, and_true, true_and, List.length_cons] at hv
  obtain ⟨⟨rfl, rfl⟩, rfl, rfl⟩ := hv
  rw [List.length_cons] at h1
  have htl := rws_tail h3 h1
  obtain ⟨b, off, rfl, hb, hr⟩ := h3 (by simp)
  obtain ⟨A0, c0, hx, _, hi⟩ := hr 0 L rfl
  obtain ⟨n, hnn⟩ : ∃ n, LL.length = n := ⟨_, rfl⟩
  obtain ⟨m, hm⟩ : ∃ m, D.length = m := ⟨_, rfl⟩
  obtain ⟨l0, hl0⟩ : ∃ l, L.length = l := ⟨_, rfl⟩
  obtain ⟨Aq, hAq⟩ : ∃ Aq, (if c = 1 then (some ⟨b, off, none⟩ : Option Addr) else (some (⟨b, off, none⟩ : Addr)).map (·.add (1 * 1))) = Aq := ⟨_, rfl⟩
  rw [hAq] at htl
  have HTO := Lib.hid (fun u (hg : w.grownBy u none) => stotal_any A0 c0 L u (hi.grown hg (by simp)) hok hl)
  rw [hl0] at hx HTO
  rw [hnn] at h1
  rw [hnn, hm]
  have hslice : ∀ u, (Instr.slice 22 (.slice (some ⟨b, off, none⟩) (n + 1) c) (some (.int .i64 1)) none none).run Try.prog u = .ok (.slice Aq n (c - 1)) u := fun u => by
    rw [run_slice_l u 22 (some ⟨b, off, none⟩) (n + 1) c Try.underlying22 .i64 1 (by omega) (by omega)]
    have hsz : (sizeOf (Try.prog.elem 22)).run Try.prog u = .ok 1 u := by kernel_rfl
    rw [hsz, ← hAq]
    unfold sliced
    by_cases h9 : c = 1 <;> simp [h9, Result.andThen] <;> omega
  obtain ⟨sm, hsm⟩ : ∃ sm, sumI L = sm := ⟨_, rfl⟩
  rw [hsm] at HTO
  rw [hsm]
  have HSL := Lib.hid hslice
  have HX := Lib.hid (show w.cell? ⟨b, off, none⟩ = some (.slice A0 l0 c0) by simpa using hx)
  have HTL := Lib.hid htl
  have HB := Lib.hid h4
  have HNN := Lib.hid hnn
  have HM := Lib.hid hm
  have HC := Lib.hid (And.intro h1 (show m ≤ e by omega))
  clear h1 h2 h3 h4 hr hb hi htl hx hslice hok hl hnn hm hl0 hAq hsm
  go_enter Try.func106, Try.ntmps106
  go_upto_region 1 with fail
  have HG := Lib.hid ((World.grownBy_alloc w (.cells #[.int .i64 k, .slice (some ⟨b, off, none⟩) (n + 1) c, .slice B m e] 34) none).trans (World.grownBy_alloc _ (.cells #[.int .i64 0, .slice none 0 0, .slice none 0 0] 34) none))
  have HT1 := Lib.hid ((Tri.new w 34 (.int .i64 k) (.slice (some ⟨b, off, none⟩) (n + 1) c) (.slice B m e)).alloc (.cells #[.int .i64 0, .slice none 0 0, .slice none 0 0] 34))
  have HT2 := Lib.hid (Tri.new (w.alloc (.cells #[.int .i64 k, .slice (some ⟨b, off, none⟩) (n + 1) c, .slice B m e] 34)) 34 (.int .i64 0) (.slice none 0 0) (.slice none 0 0))
  have hsz : (w.alloc (.cells #[.int .i64 k, .slice (some ⟨b, off, none⟩) (n + 1) c, .slice B m e] 34)).heap.size = w.heap.size + 1 := by simp
  generalize (w.alloc (.cells #[.int .i64 k, .slice (some ⟨b, off, none⟩) (n + 1) c, .slice B m e] 34)).alloc (.cells #[.int .i64 0, .slice none 0 0, .slice none 0 0] 34) = u at HG HT1 HT2 ⊢
  rw [hsz] at HT2
  clear hsz
  refine wp_region_last (u := u) 18 15 rfl (by simp) (by kernel_rfl) (fun i v _ => v = ([.pointer (some ⟨w.heap.size, 1, none⟩), .pointer (some ⟨w.heap.size, 1, none⟩), .slice (some ⟨b, off, none⟩) (n + 1) c, .pointer (some ⟨b, off, none⟩), .slice A0 l0 c0, .int .i64 sm, .pointer (some ⟨w.heap.size, 1, none⟩), .pointer (some ⟨w.heap.size, 1, none⟩), .slice (some ⟨b, off, none⟩) (n + 1) c, .slice Aq n (c - 1), .pointer (some ⟨w.heap.size, 1, none⟩), .pointer (some ⟨w.heap.size, 2, none⟩), .slice B m e, .agg #[.slice Aq n (c - 1), .slice B m e], .agg #[.int .i64 sm, .slice Aq n (c - 1), .slice B m e]] : List Value).getD i undef) (by kernel_rfl) (fun _ _ _ _ h _ => h) ?last ?step u (gr_drewN u 1 none)
  case last =>
    intro o a' w' ho hdf hgr hsz hfar hall
    cases ho
    have e0 : a'.tmps.getD 17 undef = .agg #[.int .i64 sm, .slice Aq n (c - 1), .slice B m e] := hall 14 _ 17 rfl rfl
    have e1 : a'.tmps.getD 2 undef = .pointer (some ⟨w.heap.size + 1, 0, none⟩) := hfar 2 (by kernel_rfl)
    have e0' : a'.tmps[17]?.getD undef = .agg #[.int .i64 sm, .slice Aq n (c - 1), .slice B m e] := by rw [← e0]; simp
    have e1' : a'.tmps[2]?.getD undef = .pointer (some ⟨w.heap.size + 1, 0, none⟩) := by rw [← e1]; simp
    have T4 := HT2.out.grown hgr (by simp)
    have c0 := T4.c0
    have c1 := T4.c1
    have c2 := T4.c2
    have f0 := T4.f 0
    have f1 := T4.f 1
    have f2 := T4.f 2
    have S1 := ((T4.set0 (.int .i64 sm)).set1 (.slice Aq n (c - 1))).set2 (.slice B m e)
    have hgz := ((gr_set w' (w.heap.size + 1) 0 (.int .i64 sm)).trans (gr_set _ (w.heap.size + 1) 1 (.slice Aq n (c - 1)))).trans (gr_set ((w'.setCell ⟨w.heap.size + 1, 0, none⟩ (.int .i64 sm)).setCell ⟨w.heap.size + 1, 1, none⟩ (.slice Aq n (c - 1))) (w.heap.size + 1) 2 (.slice B m e))
    have hgf := gr_ownF (HG.out.trans hgr) hgz (fun q hq => by cases hq; omega)
    go_simp
    go_wp2_with fail
    have s0 := S1.c0
    have s1 := S1.c1
    have s2 := S1.c2
    refine bodyPost_ret (v := .agg #[.int .i64 sm, .slice Aq n (c - 1), .slice B m e]) (by simp [results, Try.results106, go_sem, e1', s0, s1, s2]) hdf ?_
    exact ⟨Aq, c - 1, rfl, hgf, Aq, c - 1, B, e, by rw [HNN.out, HM.out], by rw [HNN.out]; have := HC.out.1; omega, by rw [HM.out]; exact HC.out.2, HTL.out.grown hgf, HB.out.grown hgf (by simp)⟩
  case step =>
    refine ⟨.inr ?_, .inr ?_, .inr ?_, .inr ?_, .inr ?_, .inr ?_, .inr ?_, .inr ?_, .inr ?_, .inr ?_, .inr ?_, .inr ?_, .inr ?_, .inr ?_, .inr ?_, .inl rfl, trivial⟩
    · intro a' w' hdf hgr hfar hdep
      have e1 : a'.tmps.getD 1 undef = .pointer (some ⟨w.heap.size, 0, none⟩) := hfar 1 (by kernel_rfl)
      go_simp
      first | exact gr_refl _ _ | exact ⟨rfl, gr_refl _ _⟩ | exact ⟨_, rfl, gr_refl _ _, rfl⟩
    · intro a' w' hdf hgr hfar hdep
      have e0 : a'.tmps.getD 3 undef = .pointer (some ⟨w.heap.size, 1, none⟩) := hdep 0 _ 3 (by kernel_rfl) rfl rfl
      have e0' : a'.tmps[3]?.getD undef = .pointer (some ⟨w.heap.size, 1, none⟩) := by rw [← e0]; simp
      go_simp
      first | exact gr_refl _ _ | exact ⟨rfl, gr_refl _ _⟩ | exact ⟨_, rfl, gr_refl _ _, rfl⟩
    · intro a' w' hdf hgr hfar hdep
      have e1 : a'.tmps.getD 4 undef = .pointer (some ⟨w.heap.size, 1, none⟩) := hdep 1 _ 4 (by kernel_rfl) rfl rfl
      have e1' : a'.tmps[4]?.getD undef = .pointer (some ⟨w.heap.size, 1, none⟩) := by rw [← e1]; simp
      have f0 := (HT1.out.grown hgr (by simp)).c1
      go_simp
      first | exact gr_refl _ _ | exact ⟨rfl, gr_refl _ _⟩ | exact ⟨_, rfl, gr_refl _ _, rfl⟩
    · intro a' w' hdf hgr hfar hdep
      have e2 : a'.tmps.getD 5 undef = .slice (some ⟨b, off, none⟩) (n + 1) c := hdep 2 _ 5 (by kernel_rfl) rfl rfl
      have e2' : a'.tmps[5]?.getD undef = .slice (some ⟨b, off, none⟩) (n + 1) c := by rw [← e2]; simp
      have i0 : (0 : Int) < (n : Int) + 1 := by omega
      go_simp
      first | exact gr_refl _ _ | exact ⟨rfl, gr_refl _ _⟩ | exact ⟨_, rfl, gr_refl _ _, rfl⟩
    · intro a' w' hdf hgr hfar hdep
      have e3 : a'.tmps.getD 6 undef = .pointer (some ⟨b, off, none⟩) := hdep 3 _ 6 (by kernel_rfl) rfl rfl
      have e3' : a'.tmps[6]?.getD undef = .pointer (some ⟨b, off, none⟩) := by rw [← e3]; simp
      have f0 := (HG.out.trans hgr).cell HX.out (by simp)
      go_simp
      first | exact gr_refl _ _ | exact ⟨rfl, gr_refl _ _⟩ | exact ⟨_, rfl, gr_refl _ _, rfl⟩
    · intro a' w' hdf hgr hfar hdep
      have e4 : a'.tmps.getD 7 undef = .slice A0 l0 c0 := hdep 4 _ 7 (by kernel_rfl) rfl rfl
      have e4' : a'.tmps[7]?.getD undef = .slice A0 l0 c0 := by rw [← e4]; simp
      go_simp
      go_at_call 119
      refine (HTO.out _ (HG.out.trans hgr)).mono ?_
      rintro ee w2 ⟨rfl, rfl⟩
      first | exact gr_refl _ _ | exact ⟨rfl, gr_refl _ _⟩ | exact ⟨_, rfl, gr_refl _ _, rfl⟩
    · intro a' w' hdf hgr hfar hdep
      have e1 : a'.tmps.getD 1 undef = .pointer (some ⟨w.heap.size, 0, none⟩) := hfar 1 (by kernel_rfl)
      go_simp
      first | exact gr_refl _ _ | exact ⟨rfl, gr_refl _ _⟩ | exact ⟨_, rfl, gr_refl _ _, rfl⟩
    · intro a' w' hdf hgr hfar hdep
      have e6 : a'.tmps.getD 9 undef = .pointer (some ⟨w.heap.size, 1, none⟩) := hdep 6 _ 9 (by kernel_rfl) rfl rfl
      have e6' : a'.tmps[9]?.getD undef = .pointer (some ⟨w.heap.size, 1, none⟩) := by rw [← e6]; simp
      go_simp
      first | exact gr_refl _ _ | exact ⟨rfl, gr_refl _ _⟩ | exact ⟨_, rfl, gr_refl _ _, rfl⟩
    · intro a' w' hdf hgr hfar hdep
      have e7 : a'.tmps.getD 10 undef = .pointer (some ⟨w.heap.size, 1, none⟩) := hdep 7 _ 10 (by kernel_rfl) rfl rfl
      have e7' : a'.tmps[10]?.getD undef = .pointer (some ⟨w.heap.size, 1, none⟩) := by rw [← e7]; simp
      have f0 := (HT1.out.grown hgr (by simp)).c1
      go_simp
      first | exact gr_refl _ _ | exact ⟨rfl, gr_refl _ _⟩ | exact ⟨_, rfl, gr_refl _ _, rfl⟩
    · intro a' w' hdf hgr hfar hdep
      have e8 : a'.tmps.getD 11 undef = .slice (some ⟨b, off, none⟩) (n + 1) c := hdep 8 _ 11 (by kernel_rfl) rfl rfl
      have e8' : a'.tmps[11]?.getD undef = .slice (some ⟨b, off, none⟩) (n + 1) c := by rw [← e8]; simp
      have f0 := HSL.out w'
      go_simp
      first | exact gr_refl _ _ | exact ⟨rfl, gr_refl _ _⟩ | exact ⟨_, rfl, gr_refl _ _, rfl⟩
    · intro a' w' hdf hgr hfar hdep
      have e1 : a'.tmps.getD 1 undef = .pointer (some ⟨w.heap.size, 0, none⟩) := hfar 1 (by kernel_rfl)
      go_simp
      first | exact gr_refl _ _ | exact ⟨rfl, gr_refl _ _⟩ | exact ⟨_, rfl, gr_refl _ _, rfl⟩
    · intro a' w' hdf hgr hfar hdep
      have e10 : a'.tmps.getD 13 undef = .pointer (some ⟨w.heap.size, 1, none⟩) := hdep 10 _ 13 (by kernel_rfl) rfl rfl
      have e10' : a'.tmps[13]?.getD undef = .pointer (some ⟨w.heap.size, 1, none⟩) := by rw [← e10]; simp
      go_simp
      first | exact gr_refl _ _ | exact ⟨rfl, gr_refl _ _⟩ | exact ⟨_, rfl, gr_refl _ _, rfl⟩
    · intro a' w' hdf hgr hfar hdep
      have e11 : a'.tmps.getD 14 undef = .pointer (some ⟨w.heap.size, 2, none⟩) := hdep 11 _ 14 (by kernel_rfl) rfl rfl
      have e11' : a'.tmps[14]?.getD undef = .pointer (some ⟨w.heap.size, 2, none⟩) := by rw [← e11]; simp
      have f0 := (HT1.out.grown hgr (by simp)).c2
      go_simp
      first | exact gr_refl _ _ | exact ⟨rfl, gr_refl _ _⟩ | exact ⟨_, rfl, gr_refl _ _, rfl⟩
    · intro a' w' hdf hgr hfar hdep
      have e9 : a'.tmps.getD 12 undef = .slice Aq n (c - 1) := hdep 9 _ 12 (by kernel_rfl) rfl rfl
      have e9' : a'.tmps[12]?.getD undef = .slice Aq n (c - 1) := by rw [← e9]; simp
      have e12 : a'.tmps.getD 15 undef = .slice B m e := hdep 12 _ 15 (by kernel_rfl) rfl rfl
      have e12' : a'.tmps[15]?.getD undef = .slice B m e := by rw [← e12]; simp
      go_simp
      first | exact gr_refl _ _ | exact ⟨rfl, gr_refl _ _⟩ | exact ⟨_, rfl, gr_refl _ _, rfl⟩
    · intro a' w' hdf hgr hfar hdep
      have e5 : a'.tmps.getD 8 undef = .int .i64 sm := hdep 5 _ 8 (by kernel_rfl) rfl rfl
      have e5' : a'.tmps[8]?.getD undef = .int .i64 sm := by rw [← e5]; simp
      have e13 : a'.tmps.getD 16 undef = .agg #[.slice Aq n (c - 1), .slice B m e] := hdep 13 _ 16 (by kernel_rfl) rfl rfl
      have e13' : a'.tmps[16]?.getD undef = .agg #[.slice Aq n (c - 1), .slice B m e] := by rw [← e13]; simp
      go_simp
      first | exact gr_refl _ _ | exact ⟨rfl, gr_refl _ _⟩ | exact ⟨_, rfl, gr_refl _ _, rfl⟩
end

/- SMade -/
section
open Go.RowKit

/-- A new row of ints that is handed back. -/
def ListPost (zs : List Int) (w : World) (e : Ending) (w' : World) : Prop :=
  ∃ A c, e = .returned (.slice A zs.length c) ∧ w.grownBy w' none ∧ w'.ownsRow w.heap.size 3 1 (.slice A zs.length c) zs.length (zs.map (Value.int .i64))
/-- The same, and a second result. -/
def ListPostB (zs : List Int) (b : Bool) (w : World) (e : Ending) (w' : World) : Prop :=
  ∃ A c, e = .returned (.tuple #[.slice A zs.length c, .bool b]) ∧ w.grownBy w' none ∧ w'.ownsRow w.heap.size 3 1 (.slice A zs.length c) zs.length (zs.map (Value.int .i64))

theorem made_row (w : World) (B : Nat) (hB : B ≤ w.heap.size) : (w.alloc (.cells #[] 3)).ownsRow B 3 1 (.slice (some ⟨w.heap.size, 0, none⟩) 0 0) 0 [] := by
  have := World.ownsRow_made (base := B) (e := 3) (size := 1) w #[] 0 hB (by simp) (by simp)
  simpa using this

/-- One number more behind a row of the call's own. -/
theorem row_one {w0 w w1 : World} {B q : Nat} {v v' : Value} {xs : List Int} {z : Int} {o : Obj} (h : w0.grownBy w none) (hB : w0.heap.size ≤ B) (ho : w.ownsRow B 3 1 v q (xs.map (Value.int .i64)))
    (ho' : w1.ownsRow B 3 1 v' (q + 1) (xs.map (Value.int .i64) ++ [.int .i64 z])) (hg : (w.alloc o).grownBy w1 v.ownBlock) :
    w0.grownBy w1 none ∧ w1.ownsRow B 3 1 v' (q + 1) ((xs ++ [z]).map (Value.int .i64)) ∧ ∃ g c, v' = .slice (some ⟨g, 0, none⟩) (q + 1) c := by
  refine ⟨gr_ownF (h.trans (World.grownBy_alloc w o none)) hg (fun k hk => Nat.le_trans hB (ho.lt k hk).1), by simpa using ho', ?_⟩
  rcases ho'.2 with ⟨_, hn⟩ | ⟨g, cap, cur, hv, _⟩
  · omega
  · exact ⟨g, cap, hv⟩
end

/- SStr -/
section
open Go.RowKit

set_option maxHeartbeats 1000000 in
theorem sstarts_any (A : Option Addr) (c : Nat) (zs : List Int) (w : World) (h : Ints w A zs) (hok : okN 400 zs = true) (hn : zs.length ≤ 1048576) :
    Calls Try.prog 104 #[.slice A zs.length c] w (ListPost (startsI 0 zs) w) := by
  obtain ⟨i0, hi0, hz0', hz1', hz2'⟩ := info_parts infoJ
  have HS := Lib.hid h
  have HOK := Lib.hid hok
  obtain ⟨n, hnn⟩ : ∃ n, zs.length = n := ⟨_, rfl⟩
  have HN := Lib.hid hnn
  have HSL := Lib.hid (startsI_len zs 0)
  rw [hnn] at hn ⊢
  clear h hnn hok
  go_enter Try.func104, Try.ntmps104
  go_wp2_with fail
  go_loopw [3, 4, 10] (fun u a i wr => ∃ (j : Nat) (x : Int) (A1 : Option Addr) (c1 : Nat), j ≤ n ∧ i = .int .i64 j ∧ a = .int .i64 x ∧ 0 ≤ x ∧ x ≤ 419430400 ∧ Hid (x = sumI (zs.take j)) ∧ u = .slice A1 j c1 ∧ Hid (∃ g, A1 = some ⟨g, 0, none⟩) ∧ Hid (wr.ownsRow w.heap.size 3 1 (.slice A1 j c1) j (((startsI 0 zs).take j).map (Value.int .i64))) ∧ Hid (w.grownBy wr none)) (fun _ _ i _ => n - (intOf i).toNat)
  case atStart => exact ⟨0, 0, some ⟨w.heap.size, 0, none⟩, 0, Nat.zero_le _, rfl, rfl, by omega, by omega, Lib.hid rfl, rfl, Lib.hid ⟨_, rfl⟩, Lib.hid (made_row w w.heap.size (Nat.le_refl _)), Lib.hid (World.grownBy_alloc _ _ _)⟩
  case round =>
    obtain ⟨j, x, A1, c1, hj, rfl, rfl, hx0, hx1, hx, rfl, hA1, hown, hgr⟩ := hrel
    by_cases hlt : j < n
    · obtain ⟨z, hz⟩ : ∃ z, zs[j]? = some z := ⟨_, List.getElem?_eq_getElem (by have := HN.out; omega)⟩
      obtain ⟨b, off, rfl, _, hc⟩ := HS.out.grown hgr.out (by simp) (by have := HN.out; omega)
      have hcell := hc j z hz
      have HST := Lib.hid (sumI_step hz)
      have HSS := Lib.hid (startsI_step hz)
      have hb := sumI_take_bound HOK.out (j + 1)
      rw [HST.out, ← hx.out] at hb
      obtain ⟨hb0, hb1⟩ := hb
      have hbz := okN_at hz HOK.out
      obtain ⟨hz0, hz1⟩ := hbz
      clear hc hz
      have hj4 : j < 1048576 := by omega
      have hB := hgr.out.size
      have hnl : ∀ (i : Nat) (u : Value), ([.int .i64 x] : List Value)[i]? = some u → (wr.alloc (.cells #[.int .i64 x] 3)).cell? ((⟨wr.heap.size, 0, none⟩ : Addr).add i) = some u := cell_one_new _ _ _
      have HNL := Lib.hid hnl
      have hown2 := hown.out.alloc (.cells #[.int .i64 x] 3)
      clear hnl
      go_wp2_with (at_builtin; refine wpList_append_own_at _ rfl _ _ 23 rfl w.heap.size 3 i0 (.int .i64 0) 1 8 Try.underlying23 hi0 hz0' hz1' hz2' rfl (by decide) _ _ _ rfl hown2 ⟨wr.heap.size, 0, none⟩ 1 1 [.int .i64 x] rfl rfl HNL.out ?c2 ?c3 ?c4 ?c5 ?_)
      case c2 => simp [Value.oneCell']
      case c3 => simp only [maxLen]; omega
      case c4 => omega
      case c5 => simp; omega
      intro v8 w8 hown8 hg8 _ _
      rw [← List.map_take] at hown8
      obtain ⟨g8, o8, g8', c8, rfl⟩ := row_one hgr.out (Nat.le_refl _) hown.out hown8 hg8
      have HG8 := Lib.hid g8
      have HO8 := Lib.hid o8
      clear hown8 hg8 g8 o8 hown2
      go_wp2_with fail
      go_roundw
      case rel => exact ⟨j + 1, x + z, some ⟨g8', 0, none⟩, c8, by omega, by go_num, by go_num, by omega, by omega, Lib.hid (by rw [HST.out, hx.out]), rfl, Lib.hid ⟨_, rfl⟩, Lib.hid (by rw [HSS.out, ← hx.out]; exact HO8.out), HG8⟩
      case measure => simp [intOf]; omega
    · have hjn : j = n := by omega
      have HJ := Lib.hid hjn
      clear hjn
      go_wp2_with fail
      go_ret
      have e : (startsI 0 zs).take j = startsI 0 zs := List.take_of_length_le (by have := HSL.out; have := HN.out; have := HJ.out; omega)
      have e2 : (startsI 0 zs).length = j := by have := HSL.out; have := HN.out; have := HJ.out; omega
      have h3 := hown.out
      rw [e] at h3
      refine ⟨A1, c1, by rw [e2]; rfl, hgr.out, by rw [e2]; exact h3⟩
end

/- SPick -/
section
open Go.RowKit

theorem picks_map {α β : Type} (f : α → β) (xs : List α) : ∀ (a : List Int), (picks xs a).map f = picks (xs.map f) a
  | [] => rfl
  | i :: a => by
    have e : i :: a = [i] ++ a := rfl
    rw [e, picks_append, picks_append, List.map_append, picks_map f xs a]
    congr 1
    cases h : xs[i.toNat]? with
    | none => simp [picks, h]
    | some x => simp [picks, h]
theorem nat_back : ∀ {D : List Int}, okN 10006 D = true → (D.map Int.toNat).map (fun n : Nat => (n : Int)) = D
  | [], _ => rfl
  | z :: D, h => by
    simp only [okN, Bool.and_eq_true, decide_eq_true_eq] at h
    have h1 := nat_back h.2
    simp only [List.map_cons, h1]
    congr 1
    omega
theorem pick_zero {D a : List Int} (h : okN 10006 D = true) : dat 0 (show List (T 0) from picks (show List (T 0) from (D.map Int.toNat : List Nat)) a) = picks D a := by
  have h1 : dat 0 (show List (T 0) from picks (show List (T 0) from (D.map Int.toNat : List Nat)) a) = (picks (D.map Int.toNat) a).map (fun n : Nat => (n : Int)) := rfl
  rw [h1, picks_map, nat_back h]
theorem pick_succ {L : List Int} {LL : List (List Int)} {D a : List Int} (hok : okN 400 L = true) (hx : (foldN LL.length LL D).length = (sumI L).toNat) (ha : InN L.length a) :
    lv (LL.length + 1) (pickT (L :: LL) D a) = lensN L a :: lv LL.length (pickT LL D (innerN L a)) ∧ dat (LL.length + 1) (pickT (L :: LL) D a) = dat LL.length (pickT LL D (innerN L a)) ∧ szN LL.length (pickT LL D (innerN L a)) ≤ szN (LL.length + 1) (pickT (L :: LL) D a) := by
  have e : (pickT (L :: LL) D a).flatMap prt = pickT LL D (innerN L a) := by
    have h1 := picks_inner (xs := foldN LL.length LL D) hok ha
    show (picks (cutBy L (foldN LL.length LL D)) a).flatMap (fun t => t) = _
    rw [pickT, h1]
    simp [List.flatMap]
  have e2 : ((pickT (L :: LL) D a).map fun t => ((prt t).length : Int)) = lensN L a := lens_cut hok hx ha
  refine ⟨?_, ?_, ?_⟩
  · rw [lv]
    rw [e]
    congr 1
  · rw [dat, e]
  · rw [szN_succ, e]
    omega

theorem vctN_form {lo : Nat} {w : World} {v : Value} {k : Int} {LL : List (List Int)} {D : List Int} (h : VctN lo w v k LL D) : ∃ A c B e, v = .agg #[.int .i64 k, .slice A LL.length c, .slice B D.length e] := by
  obtain ⟨A, c, B, e, hv, _⟩ := h
  exact ⟨A, c, B, e, hv⟩
def SPickP (LL : List (List Int)) (D a : List Int) (w : World) (e : Ending) (w' : World) : Prop := ∃ u, e = .returned u ∧ w.grownBy w' none ∧ VctN w.heap.size w' u (a.length : Int) (lv LL.length (pickT LL D a)) (dat LL.length (pickT LL D a))

set_option maxRecDepth 100000 in
set_option maxHeartbeats 4000000 in
theorem spick_zero (A B Aa : Option Addr) (c e ca : Nat) (k : Int) (D a : List Int) (w : World) (p : Nat) (h : Vct w (.agg #[.int .i64 k, .slice A 0 c, .slice B D.length e]) k [] D) (ha : Ints w Aa a) (hf : Fits p [] D) (hin : InN p a) (hsz : a.length ≤ 274877906944) :
    Calls Try.prog 87 #[.agg #[.int .i64 k, .slice A 0 c, .slice B D.length e], .slice Aa a.length ca] w (SPickP [] D a w) := by
  obtain ⟨i0, hi0, hz0', hz1', hz2'⟩ := info_parts infoJ
  obtain ⟨A', c', B', e', hv, -, -, -, hB⟩ := h
  simp only [Value.agg.injEq, Array.mk.injEq, List.cons.injEq, Value.slice.injEq, and_true, true_and] at hv
  obtain ⟨-, rfl, rfl⟩ := hv
  have hD := hf.2
  have hp := hf.1
  have HE := Lib.hid (pick_zero (a := a) hD)
  obtain ⟨m, hm⟩ : ∃ m, D.length = m := ⟨_, rfl⟩
  obtain ⟨q, hq⟩ : ∃ q, a.length = q := ⟨_, rfl⟩
  have HM := Lib.hid hm
  have HQ := Lib.hid hq
  have HB := Lib.hid hB
  have HA := Lib.hid ha
  have HIN := Lib.hid hin
  have HP := Lib.hid hp
  rw [hq] at hsz
  rw [hm, hq]
  clear hB ha hin hf hD hp hm hq
  go_enter Try.func87, Try.ntmps87
  have HT2 := Lib.hid ((Tri.new w 34 (.int .i64 k) (.slice A 0 c) (.slice B m e)).alloc (.cells #[.int .i64 0, .slice none 0 0, .slice none 0 0] 34))
  have c1 := HT2.out.c1
  have c2 := HT2.out.c2
  go_wp2_with fail
  have hgu : w.grownBy (((w.alloc (.cells #[.int .i64 k, .slice A 0 c, .slice B m e] 34)).alloc (.cells #[.int .i64 0, .slice none 0 0, .slice none 0 0] 34)).alloc (.cells #[] 3)) none := ((World.grownBy_alloc _ _ _).trans (World.grownBy_alloc _ _ _)).trans (World.grownBy_alloc _ _ _)
  have HT4 := Lib.hid ((Tri.new (w.alloc (.cells #[.int .i64 k, .slice A 0 c, .slice B m e] 34)) 34 (.int .i64 0) (.slice none 0 0) (.slice none 0 0)).alloc (.cells #[] 3))
  have hmd := made_row ((w.alloc (.cells #[.int .i64 k, .slice A 0 c, .slice B m e] 34)).alloc (.cells #[.int .i64 0, .slice none 0 0, .slice none 0 0] 34)) (w.heap.size + 2) (by simp)
  have hs1 : (w.alloc (.cells #[.int .i64 k, .slice A 0 c, .slice B m e] 34)).heap.size = w.heap.size + 1 := by simp
  have hs2 : ((w.alloc (.cells #[.int .i64 k, .slice A 0 c, .slice B m e] 34)).alloc (.cells #[.int .i64 0, .slice none 0 0, .slice none 0 0] 34)).heap.size = w.heap.size + 2 := by simp
  rw [hs1] at HT4
  rw [hs2] at hmd
  have HT3 := Lib.hid (HT2.out.alloc (.cells #[] 3))
  have HG := Lib.hid hgu
  have HMD := Lib.hid hmd
  clear hgu hmd hs1 hs2 c1 c2 HT2
  generalize ((w.alloc (.cells #[.int .i64 k, .slice A 0 c, .slice B m e] 34)).alloc (.cells #[.int .i64 0, .slice none 0 0, .slice none 0 0] 34)).alloc (.cells #[] 3) = u0 at HG HMD HT3 HT4 ⊢
  go_loopw [5, 22] (fun o i wr => ∃ (j : Nat) (A1 : Option Addr) (c1 : Nat), j ≤ q ∧ i = .int .i64 j ∧ o = .slice A1 j c1 ∧ Hid (wr.ownsRow (w.heap.size + 2) 3 1 (.slice A1 j c1) j ((picks D (a.take j)).map (Value.int .i64))) ∧ Hid (w.grownBy wr none) ∧ Hid (Tri wr w.heap.size 34 (.int .i64 k) (.slice A 0 c) (.slice B m e)) ∧ Hid (Tri wr (w.heap.size + 1) 34 (.int .i64 0) (.slice none 0 0) (.slice none 0 0))) (fun _ i _ => q - (intOf i).toNat)
  case atStart => exact ⟨0, some ⟨w.heap.size + 2, 0, none⟩, 0, Nat.zero_le _, rfl, rfl, HMD, HG, HT3, HT4⟩
  case round =>
    clear HG HMD HT3 HT4
    obtain ⟨j, A1, c1, hj, rfl, rfl, hown, hgr, ht2, ht4⟩ := hrel
    by_cases hlt : j < q
    · obtain ⟨z, hz⟩ : ∃ z, a[j]? = some z := ⟨_, List.getElem?_eq_getElem (by have := HQ.out; omega)⟩
      obtain ⟨hz0, hz1⟩ := inN_at HIN.out hz
      obtain ⟨zi, rfl⟩ : ∃ zi : Nat, z = zi := ⟨z.toNat, by omega⟩
      obtain ⟨x, hx⟩ : ∃ x, D[zi]? = some x := ⟨_, List.getElem?_eq_getElem (by have := HP.out; omega)⟩
      obtain ⟨b, off, rfl, _, hc⟩ := (HA.out.grown hgr.out (by simp)) (by have := HQ.out; omega)
      have hcell := hc j _ hz
      obtain ⟨b2, off2, rfl, _, hc2⟩ := (HB.out.grown hgr.out (by simp)) (by have := (List.getElem?_eq_some_iff.1 hx).1; omega)
      have hcell2 := hc2 zi x hx
      have HST := Lib.hid (picks_step hz (show D[((zi : Nat) : Int).toNat]? = some x by simpa using hx))
      have hzm : zi < m := by have := HP.out; have := HM.out; omega
      have hjq : j < 274877906944 := by omega
      have hB := hgr.out.size
      have hB2 := ht4.out.lt
      have t1 := ht2.out.c1
      have t2 := ht2.out.c2
      have HNL := Lib.hid (cell_one_new wr (.int .i64 x) 3)
      have hown2 := hown.out.alloc (.cells #[.int .i64 x] 3)
      have HT2A := Lib.hid (ht2.out.alloc (.cells #[.int .i64 x] 3))
      have HT4A := Lib.hid (ht4.out.alloc (.cells #[.int .i64 x] 3))
      clear hc hc2 hz hx
      go_wp2_with (at_builtin; refine wpList_append_own_at _ rfl _ _ 23 rfl (w.heap.size + 2) 3 i0 (.int .i64 0) 1 8 Try.underlying23 hi0 hz0' hz1' hz2' rfl (by decide) _ _ _ rfl hown2 ⟨wr.heap.size, 0, none⟩ 1 1 [.int .i64 x] rfl rfl HNL.out ?c2 ?c3 ?c4 ?c5 ?_)
      case c2 => simp [Value.oneCell']
      case c3 => simp only [maxLen]; omega
      case c4 => omega
      case c5 => simp; omega
      intro v8 w8 hown8 hg8 _ _
      have hne1 : ∀ q2, q2 < w.heap.size + 2 → some q2 ≠ (Value.slice A1 j c1).ownBlock := fun q2 h2 e2 => by have := (hown.out.lt q2 e2.symm).1; omega
      have HT2B := Lib.hid (HT2A.out.grown hg8 (hne1 _ (by omega)))
      have HT4B := Lib.hid (HT4A.out.grown hg8 (hne1 _ (by omega)))
      obtain ⟨g8, o8, g8', c8, rfl⟩ := row_one hgr.out (show w.heap.size ≤ w.heap.size + 2 by omega) hown.out hown8 hg8
      have HG8 := Lib.hid g8
      have HO8 := Lib.hid o8
      clear hown8 hg8 g8 o8 hown2 hne1
      go_wp2_with fail
      go_roundw
      case rel => exact ⟨j + 1, some ⟨g8', 0, none⟩, c8, by omega, by go_num, rfl, Lib.hid (by rw [HST.out]; exact HO8.out), HG8, HT2B, HT4B⟩
      case measure => simp [intOf]; omega
    · have hjn : j = q := by omega
      have e1 : a.take j = a := List.take_of_length_le (by have := HQ.out; omega)
      have hrow := hown.out
      rw [e1] at hrow
      have hpl : (picks D a).length = q := by rw [picks_len (by rw [HP.out]; exact HIN.out)]; exact HQ.out
      obtain ⟨rr, hrr⟩ : ∃ rr, picks D a = rr := ⟨_, rfl⟩
      rw [hrr] at hrow hpl
      have HRR := Lib.hid hrr
      subst hjn
      have hrn := RowN.of_own (show wr.ownsRow (w.heap.size + 2) 3 1 (.slice A1 j c1) rr.length (rr.map (Value.int .i64)) by rw [hpl]; exact hrow)
      have HPL := Lib.hid hpl
      have HSP := Lib.hid (splain_any (w.heap.size + 2) A1 c1 rr wr hrn)
      rw [hpl] at HSP
      clear hrow hrr hpl hrn e1
      go_wp2_with fail
      refine HSP.out.mono ?_
      rintro ee w9 ⟨u, rfl, hg9, hv9⟩
      obtain ⟨A9, c9, B9, e9, rfl⟩ := vctN_form hv9
      rw [HPL.out] at hv9 ⊢
      have T4 := ht4.out.grown hg9 (by simp)
      have r0 := T4.c0
      have r1 := T4.c1
      have r2 := T4.c2
      have f0 := T4.f 0
      have f1 := T4.f 1
      have f2 := T4.f 2
      have HT9 := Lib.hid T4
      have HG9 := Lib.hid (hgr.out.trans hg9)
      have HV9 := Lib.hid hv9
      have hlo := ht4.out.lt
      clear T4 hg9 hv9
      simp only [List.length_nil]
      go_wp2_with fail
      have S1 := ((HT9.out.set0 (.int .i64 (j : Int))).set1 (.slice A9 0 c9)).set2 (.slice B9 j e9)
      have hgz := ((gr_set w9 (w.heap.size + 1) 0 (.int .i64 (j : Int))).trans (gr_set _ (w.heap.size + 1) 1 (.slice A9 0 c9))).trans (gr_set ((w9.setCell ⟨w.heap.size + 1, 0, none⟩ (.int .i64 (j : Int))).setCell ⟨w.heap.size + 1, 1, none⟩ (.slice A9 0 c9)) (w.heap.size + 1) 2 (.slice B9 j e9))
      have s0 := S1.c0
      have s1 := S1.c1
      have s2 := S1.c2
      refine bodyPost_ret (v := .agg #[.int .i64 (j : Int), .slice A9 0 c9, .slice B9 j e9]) (by simp [results, Try.results87, go_sem, s0, s1, s2]) rfl ?_
      refine ⟨_, rfl, gr_ownF HG9.out hgz (fun q hq => by cases hq; omega), ?_⟩
      have hv := (HV9.out.move hgz (fun g e => by cases e; omega)).lows (show w.heap.size ≤ w.heap.size + 2 by omega)
      have e2 : dat ([] : List (List Int)).length (pickT [] D a) = rr := HE.out.trans HRR.out
      rw [e2, HQ.out]
      exact hv
end

/- SPickN -/
section
open Go.RowKit

theorem innerN_le (L a : List Int) (j : Nat) : (innerN L (a.take j)).length ≤ (innerN L a).length := by
  have e : a = a.take j ++ a.drop j := (List.take_append_drop j a).symm
  have h : innerN L a = innerN L (a.take j) ++ innerN L (a.drop j) := by
    conv => lhs; rw [e]
    unfold innerN
    rw [List.flatMap_append]
  rw [h, List.length_append]
  omega
theorem partI_len {L : List Int} {i z : Int} (hz : L[i.toNat]? = some z) : (partI L i).length = z.toNat := by simp [partI, hz]
theorem partI_at {L : List Int} {i z : Int} {t : Nat} (hz : L[i.toNat]? = some z) (ht : t < z.toNat) : (partI L i)[t]? = some (sumI (L.take i.toNat) + (t : Int)) := by
  rw [partI, hz, Option.getD_some, List.getElem?_map, List.getElem?_range ht]
  rfl
/-- One number more behind one of two rows. -/
theorem two_rows {u wr w8 : World} {g1 g2 k c1 c2 s : Nat} {xs ys : List Int} {x : Int} {v8 : Value} (hu : u.grownBy wr none) (h1 : wr.ownsRow u.heap.size 3 1 (.slice (some ⟨g1, 0, none⟩) k c1) k (xs.map (Value.int .i64))) (h2 : wr.ownsRow u.heap.size 3 1 (.slice (some ⟨g2, 0, none⟩) s c2) s (ys.map (Value.int .i64))) (hne : g1 ≠ g2)
    (ho : w8.ownsRow u.heap.size 3 1 v8 (k + 1) (xs.map (Value.int .i64) ++ [.int .i64 x])) (hg : (wr.alloc (.cells #[.int .i64 x] 3)).grownBy w8 (some g1)) (hat : v8.ownBlock = some g1 ∨ v8.ownBlock = some (wr.heap.size + 1)) :
    ∃ g c, v8 = .slice (some ⟨g, 0, none⟩) (k + 1) c ∧ g ≠ g2 ∧ u.grownBy w8 none ∧ w8.ownsRow u.heap.size 3 1 (.slice (some ⟨g, 0, none⟩) (k + 1) c) (k + 1) ((xs ++ [x]).map (Value.int .i64)) ∧ w8.ownsRow u.heap.size 3 1 (.slice (some ⟨g2, 0, none⟩) s c2) s (ys.map (Value.int .i64)) := by
  have hl1 := h1.lt g1 rfl
  have hl2 := h2.lt g2 rfl
  have hga := World.grownBy_alloc wr (.cells #[.int .i64 x] 3) none
  obtain ⟨g, c, rfl⟩ : ∃ g c, v8 = .slice (some ⟨g, 0, none⟩) (k + 1) c := by
    rcases ho.2 with ⟨_, hn⟩ | ⟨g, cap, cur, hv, _⟩
    · omega
    · exact ⟨g, cap, hv⟩
  refine ⟨g, c, rfl, fun e => ?_, gr_ownF (hu.trans hga) hg (fun q e => by cases e; exact hl1.1), by simpa using ho, own_keep h2 (fun q hq => (hg.block q (by have := (h2.lt q hq).2; simp; omega) (fun e => by cases hq; cases e; exact hne rfl)).trans (hga.block q (h2.lt q hq).2 (by simp)))⟩
  rcases hat with h | h <;> simp only [Value.ownBlock, Option.some.injEq] at h <;> omega

set_option maxRecDepth 100000 in
set_option maxHeartbeats 8000000 in
theorem spick_succ (L : List Int) (LL : List (List Int)) (D : List Int)
    (IH : ∀ (A B Aa : Option Addr) (c e ca : Nat) (k : Int) (a : List Int) (w : World) (p : Nat), Vct w (.agg #[.int .i64 k, .slice A LL.length c, .slice B D.length e]) k LL D → Ints w Aa a → Fits p LL D → InN p a → szN LL.length (pickT LL D a) ≤ 274877906944 →
      Calls Try.prog 87 #[.agg #[.int .i64 k, .slice A LL.length c, .slice B D.length e], .slice Aa a.length ca] w (SPickP LL D a w))
    (A B Aa : Option Addr) (c e ca : Nat) (k : Int) (a : List Int) (w : World) (p : Nat) (h : Vct w (.agg #[.int .i64 k, .slice A (LL.length + 1) c, .slice B D.length e]) k (L :: LL) D) (ha : Ints w Aa a) (hf : Fits p (L :: LL) D) (hin : InN p a) (hsz : szN (LL.length + 1) (pickT (L :: LL) D a) ≤ 274877906944) (hl : L.length ≤ 1048576) (h3n : LL.length ≤ 3) :
    Calls Try.prog 87 #[.agg #[.int .i64 k, .slice A (LL.length + 1) c, .slice B D.length e], .slice Aa a.length ca] w (SPickP (L :: LL) D a w) := by
  obtain ⟨i0, hi0, hz0', hz1', hz2'⟩ := info_parts infoJ
  obtain ⟨hLp, hok, hfr⟩ := hf
  have hinL : InN L.length a := by rw [hLp]; exact hin
  have htl := foldN_len LL.length _ LL D rfl hfr
  obtain ⟨hlv, hdt, hsn⟩ := pick_succ hok htl hinL
  have hin2 := innerN_in hok hinL
  have hlen2 : (innerN L a).length ≤ 274877906944 := by
    have h1 : (pickT LL D (innerN L a)).length = (innerN L a).length := picks_len (by rw [htl]; exact hin2)
    have h2 := szN_len LL.length (pickT LL D (innerN L a))
    omega
  have halen : a.length ≤ 274877906944 := by
    have h1 : (pickT (L :: LL) D a).length = a.length := picks_len (by
      have : (foldN (L :: LL).length (L :: LL) D).length = L.length := cutBy_len L _
      rw [this]; exact hinL)
    have h2 := szN_len (LL.length + 1) (pickT (L :: LL) D a)
    have h3 : (pickT (L :: LL) D a).length ≤ szN (LL.length + 1) (pickT (L :: LL) D a) := h2
    omega
  have HIH := Lib.hid (fun A B Aa c e ca k w h1 h2 => IH A B Aa c e ca k (innerN L a) w _ h1 h2 hfr hin2 (Nat.le_trans hsn hsz))
  have HLE := Lib.hid hl
  have H3 := Lib.hid h3n
  have HLV := Lib.hid hlv
  have HDT := Lib.hid hdt
  have HIN := Lib.hid hinL
  have HL2 := Lib.hid hlen2
  have HOK := Lib.hid hok
  have HV := Lib.hid h
  have HSI := Lib.hid (fun u (hg : w.grownBy u none) => sinner_any A B c e L k LL D u (h.grown hg) hok hl)
  obtain ⟨A', c', B', e', hv, h1, h2, h3, h4⟩ := h
  simp only [Value.agg.injEq, Array.mk.injEq, List.cons.injEq, Value.slice.injEq, and_true, true_and, List.length_cons] at hv
  obtain ⟨⟨rfl, rfl⟩, rfl, rfl⟩ := hv
  obtain ⟨b, off, rfl, hb, hr⟩ := h3 (by simp)
  obtain ⟨A0, c0, hx, _, hi⟩ := hr 0 L rfl
  have HST := Lib.hid (fun u (hg : w.grownBy u none) => sstarts_any A0 c0 L u (hi.grown hg (by simp)) hok hl)
  have HI := Lib.hid hi
  have HA := Lib.hid ha
  have HX := Lib.hid (show w.cell? ⟨b, off, none⟩ = some (.slice A0 L.length c0) by simpa using hx)
  obtain ⟨n, hnn⟩ : ∃ n, LL.length = n := ⟨_, rfl⟩
  obtain ⟨m, hm⟩ : ∃ m, D.length = m := ⟨_, rfl⟩
  obtain ⟨q, hq⟩ : ∃ q, a.length = q := ⟨_, rfl⟩
  obtain ⟨l0, hl0⟩ : ∃ l, L.length = l := ⟨_, rfl⟩
  have HNN := Lib.hid hnn
  have HM := Lib.hid hm
  have HQ := Lib.hid hq
  have HL0 := Lib.hid hl0
  rw [hl0] at HST HX
  rw [hq] at halen
  have HSI2 := Lib.hid (fun u (hg : w.grownBy u none) => (by have := HSI.out u hg; rw [hnn, hm] at this; exact this : Calls Try.prog 106 #[.agg #[.int .i64 k, .slice (some ⟨b, off, none⟩) (n + 1) c, .slice B m e]] u fun ee w' => ∃ A' c', ee = .returned (.agg #[.int .i64 (sumI L), .slice A' n c', .slice B m e]) ∧ u.grownBy w' none ∧ Vct w' (.agg #[.int .i64 (sumI L), .slice A' n c', .slice B m e]) (sumI L) LL D))
  rw [hnn, hm, hq]
  clear IH h1 h2 h3 h4 hr hb hx hi ha hlv hdt hsn hin2 hlen2 hin hinL htl hfr hok hsz hl h3n hLp hnn hm hq hl0 HSI
  go_enter Try.func87, Try.ntmps87
  have HG0 := Lib.hid ((World.grownBy_alloc w (.cells #[.int .i64 k, .slice (some ⟨b, off, none⟩) (n + 1) c, .slice B m e] 34) none).trans (World.grownBy_alloc _ (.cells #[.int .i64 0, .slice none 0 0, .slice none 0 0] 34) none))
  have HT2 := Lib.hid ((Tri.new w 34 (.int .i64 k) (.slice (some ⟨b, off, none⟩) (n + 1) c) (.slice B m e)).alloc (.cells #[.int .i64 0, .slice none 0 0, .slice none 0 0] 34))
  have HT4 := Lib.hid (Tri.new (w.alloc (.cells #[.int .i64 k, .slice (some ⟨b, off, none⟩) (n + 1) c, .slice B m e] 34)) 34 (.int .i64 0) (.slice none 0 0) (.slice none 0 0))
  have hs1 : (w.alloc (.cells #[.int .i64 k, .slice (some ⟨b, off, none⟩) (n + 1) c, .slice B m e] 34)).heap.size = w.heap.size + 1 := by simp
  rw [hs1] at HT4
  have d1 := HT2.out.c1
  have d0 := HG0.out.cell HX.out (by simp)
  have hne0 : (((n : Int) + 1) == 0) = false := by simp; omega
  have i1 : (0 : Int) < (n : Int) + 1 := by omega
  go_wp2_with fail
  generalize (w.alloc (.cells #[.int .i64 k, .slice (some ⟨b, off, none⟩) (n + 1) c, .slice B m e] 34)).alloc (.cells #[.int .i64 0, .slice none 0 0, .slice none 0 0] 34) = w1 at HG0 HT2 HT4 d1 d0 ⊢
  refine (HST.out w1 HG0.out).mono ?_
  rintro ee w5 ⟨As, cs, rfl, hg5, ho5⟩
  have hsl : (startsI 0 L).length = l0 := by rw [startsI_len]; exact HL0.out
  have HS5 := Lib.hid (Ints.of_own (e := 3) (w := w5) (base := w1.heap.size) (A := As) (c := cs) (zs := startsI 0 L) ho5)
  have HG5 := Lib.hid (HG0.out.trans hg5)
  have HT25 := Lib.hid (HT2.out.grown hg5 (by simp))
  have HT45 := Lib.hid (HT4.out.grown hg5 (by simp))
  rw [hsl]
  clear hg5 ho5 hsl d1 d0 HG0 HT2 HT4
  go_wp2_with fail
  obtain ⟨B5, hB5⟩ : ∃ B5, w5.heap.size = B5 := ⟨_, rfl⟩
  have HB5 := Lib.hid hB5
  have hr1 := made_row w5 w5.heap.size (Nat.le_refl _)
  have hr2 := made_row (w5.alloc (.cells #[] 3)) w5.heap.size (by simp)
  have hr1' := hr1.alloc (.cells #[] 3)
  have hgu := (World.grownBy_alloc w5 (.cells #[] 3) none).trans (World.grownBy_alloc _ (.cells #[] 3) none)
  have hs5 : (w5.alloc (.cells #[] 3)).heap.size = w5.heap.size + 1 := by simp
  rw [hs5] at hr2
  have HR1 := Lib.hid hr1'
  have HR2 := Lib.hid hr2
  have HGU := Lib.hid hgu
  clear hr1 hr2 hr1' hgu hs5
  generalize (w5.alloc (.cells #[] 3)).alloc (.cells #[] 3) = u0 at HR1 HR2 HGU ⊢
  clear hB5
  go_loopw [9, 10, 48] (fun o o2 i wr => ∃ (j g1 c1 g2 c2 s : Nat), j ≤ q ∧ i = .int .i64 j ∧ o = .slice (some ⟨g1, 0, none⟩) j c1 ∧ o2 = .slice (some ⟨g2, 0, none⟩) s c2 ∧ Hid (g1 ≠ g2) ∧ Hid (s = (innerN L (a.take j)).length) ∧ Hid (wr.ownsRow w5.heap.size 3 1 (.slice (some ⟨g1, 0, none⟩) j c1) j ((lensN L (a.take j)).map (Value.int .i64))) ∧ Hid (wr.ownsRow w5.heap.size 3 1 (.slice (some ⟨g2, 0, none⟩) s c2) s ((innerN L (a.take j)).map (Value.int .i64))) ∧ Hid (w5.grownBy wr none)) (fun _ _ i _ => q - (intOf i).toNat)
  case atStart => exact ⟨0, w5.heap.size, 0, w5.heap.size + 1, 0, 0, Nat.zero_le _, rfl, rfl, rfl, Lib.hid (by omega), Lib.hid rfl, HR1, HR2, HGU⟩
  case round =>
    clear HR1 HR2 HGU
    obtain ⟨j, g1, c1, g2, c2, s, hj, rfl, rfl, rfl, hne, hs, ho1, ho2, hgr⟩ := hrel
    obtain ⟨wo, rfl⟩ : ∃ wo : World, wo = wr := ⟨_, rfl⟩
    have HGW := Lib.hid (HG5.out.trans hgr.out)
    have HT2W := Lib.hid (HT25.out.grown hgr.out (by simp))
    have HT4W := Lib.hid (HT45.out.grown hgr.out (by simp))
    have t1 := HT2W.out.c1
    by_cases hlt : j < q
    · obtain ⟨z, hz⟩ : ∃ z, a[j]? = some z := ⟨_, List.getElem?_eq_getElem (by have := HQ.out; omega)⟩
      obtain ⟨hz0, hz1⟩ := inN_at HIN.out hz
      obtain ⟨zi, rfl⟩ : ∃ zi : Nat, z = zi := ⟨z.toNat, by omega⟩
      obtain ⟨x, hx⟩ : ∃ x, L[zi]? = some x := ⟨_, List.getElem?_eq_getElem (by omega)⟩
      obtain ⟨hx0, hx1⟩ := okN_at hx HOK.out
      obtain ⟨x, rfl⟩ : ∃ y : Nat, x = y := ⟨x.toNat, by omega⟩
      have hstb := sumI_take_bound HOK.out zi
      obtain ⟨st, hst⟩ : ∃ st, sumI (L.take zi) = st := ⟨_, rfl⟩
      have hsat := startsI_at L 0 zi x hx
      rw [hst] at hstb hsat
      obtain ⟨ba, offa, rfl, _, hca⟩ := (HA.out.grown HGW.out (by simp)) (by have := HQ.out; omega)
      have hcell := hca j _ hz
      obtain ⟨b0, off0, rfl, _, hc0⟩ := HI.out (by have := (List.getElem?_eq_some_iff.1 hx).1; omega)
      have HX0 := Lib.hid (hc0 zi _ hx)
      have hcell0 := HGW.out.cell HX0.out (by simp)
      obtain ⟨bs, offs, rfl, _, hcs⟩ := HS5.out (by have := (List.getElem?_eq_some_iff.1 hsat).1; omega)
      have hcells := hcs zi _ hsat
      rw [Int.zero_add] at hcells
      have HCS := Lib.hid hcells
      have hd0 := HGW.out.cell HX.out (by simp)
      have HLS := Lib.hid (lensN_step (L := L) hz (show L[((zi : Nat) : Int).toNat]? = some (x : Int) by simpa using hx))
      have HIS := Lib.hid (innerN_step (L := L) hz)
      have HPL := Lib.hid (partI_len (L := L) (i := ((zi : Nat) : Int)) (show L[((zi : Nat) : Int).toNat]? = some (x : Int) by simpa using hx))
      have HPA := Lib.hid (fun (t : Nat) (ht : t < x) => (by
        have := partI_at (L := L) (i := ((zi : Nat) : Int)) (t := t) (show L[((zi : Nat) : Int).toNat]? = some (x : Int) by simpa using hx) (by simpa using ht)
        rw [show ((zi : Nat) : Int).toNat = zi by simp, hst] at this
        exact this : (partI L ((zi : Nat) : Int))[t]? = some (st + (t : Int))))
      have hle := innerN_le L a (j + 1)
      rw [HIS.out, List.length_append, HPL.out] at hle
      have hsx : s + x ≤ 274877906944 := by have := hs.out; have := HL2.out; simp at hle; omega
      have hzl : zi < l0 := by have := (List.getElem?_eq_some_iff.1 hx).1; have := HL0.out; omega
      have HNL := Lib.hid (cell_one_new wo (.int .i64 (x : Int)) 3)
      have hown2 := ho1.out.alloc (.cells #[.int .i64 (x : Int)] 3)
      have HTR := Lib.hid (fun (v8 : Value) (w8 : World) => two_rows (v8 := v8) (w8 := w8) (x := (x : Int)) hgr.out ho1.out ho2.out hne.out)
      have hB := hgr.out.size
      clear hca hc0 hcs hz hx hst hsat hle ho1 ho2
      go_wp2_with (at_builtin; refine wpList_append_own_at _ rfl _ _ 23 rfl w5.heap.size 3 i0 (.int .i64 0) 1 8 Try.underlying23 hi0 hz0' hz1' hz2' rfl (by decide) _ _ _ rfl hown2 ⟨wo.heap.size, 0, none⟩ 1 1 [.int .i64 (x : Int)] rfl rfl HNL.out ?c2 ?c3 ?c4 ?c5 ?_)
      case c2 => simp [Value.oneCell']
      case c3 => simp only [maxLen]; omega
      case c4 => omega
      case c5 => simp; omega
      intro v8 w8 hown8 hg8 _ hat8
      obtain ⟨g1', c1', rfl, hne', hgw8, ho1', ho2'⟩ := HTR.out v8 w8 hown8 hg8 hat8
      have HNE := Lib.hid hne'
      have HGW8 := Lib.hid hgw8
      have HO1 := Lib.hid ho1'
      have HO2 := Lib.hid ho2'
      have hgx := HG5.out.trans hgw8
      have t8 := (HT25.out.grown hgw8 (by simp)).c1
      have d8 := hgx.cell HX.out (by simp)
      clear hown8 hg8 hat8 hne' hgw8 ho1' ho2' HTR hown2 t1 hcell hd0 hcells hne
      have f8 := hgx.cell HX0.out (by simp)
      have hx4 : x ≤ 400 := by omega
      go_wp2_with fail
      clear t8 d8 f8 hgx
      go_loopw [10, 71] (fun o2 i wr => ∃ (t g2' c2' : Nat), t ≤ x ∧ i = .int .i64 t ∧ o2 = .slice (some ⟨g2', 0, none⟩) (s + t) c2' ∧ Hid (g1' ≠ g2') ∧ Hid (wr.ownsRow w5.heap.size 3 1 (.slice (some ⟨g1', 0, none⟩) (j + 1) c1') (j + 1) ((lensN L (a.take (j + 1))).map (Value.int .i64))) ∧ Hid (wr.ownsRow w5.heap.size 3 1 (.slice (some ⟨g2', 0, none⟩) (s + t) c2') (s + t) ((innerN L (a.take j) ++ (partI L ((zi : Nat) : Int)).take t).map (Value.int .i64))) ∧ Hid (w5.grownBy wr none)) (fun _ i _ => x - (intOf i).toNat)
      case atStart => exact ⟨0, g2, c2, Nat.zero_le _, rfl, rfl, HNE, Lib.hid (by rw [HLS.out]; exact HO1.out), Lib.hid (by rw [List.take_zero, List.append_nil]; exact HO2.out), HGW8⟩
      case round =>
        clear HO1 HO2 HGW8 HNE
        obtain ⟨t, g2', c2', ht, rfl, rfl, hne, ho1, ho2, hgr2⟩ := hrel
        obtain ⟨wi, rfl⟩ : ∃ wi : World, wi = wr := ⟨_, rfl⟩
        by_cases htx : t < x
        · have hsc := hgr2.out.cell HCS.out (by simp)
          have HPT := Lib.hid (HPA.out t htx)
          obtain ⟨y, hy⟩ : ∃ y, st + (t : Int) = y := ⟨_, rfl⟩
          have hyw : wrap64 y = y := by have := HLE.out; unfold wrap64; omega
          rw [hy] at HPT
          have HNL2 := Lib.hid (cell_one_new wi (.int .i64 y) 3)
          have hown2 := ho2.out.alloc (.cells #[.int .i64 y] 3)
          have HTR := Lib.hid (fun (v8 : Value) (w8 : World) => two_rows (v8 := v8) (w8 := w8) (x := y) hgr2.out ho2.out ho1.out (fun e => hne.out e.symm))
          have hB2 := hgr2.out.size
          clear ho1 ho2
          go_wp2_with (at_builtin; refine wpList_append_own_at _ rfl _ _ 23 rfl w5.heap.size 3 i0 (.int .i64 0) 1 8 Try.underlying23 hi0 hz0' hz1' hz2' rfl (by decide) _ _ _ rfl hown2 ⟨wi.heap.size, 0, none⟩ 1 1 [.int .i64 y] rfl rfl HNL2.out ?e2 ?e3 ?e4 ?e5 ?_)
          case e2 => simp [Value.oneCell']
          case e3 => simp only [maxLen]; omega
          case e4 => omega
          case e5 => simp; omega
          intro v8 w8 hown8 hg8 _ hat8
          obtain ⟨g3, c3, rfl, hne', hgw8, ho2', ho1'⟩ := HTR.out v8 w8 (by simpa using hown8) hg8 hat8
          have HNE := Lib.hid hne'
          have HGW8 := Lib.hid hgw8
          have HO1 := Lib.hid ho1'
          have HO2 := Lib.hid ho2'
          clear hown8 hg8 hat8 hne' hgw8 ho1' ho2' HTR hown2 hy hyw hsc
          go_wp2_with fail
          go_roundw
          case rel => exact ⟨t + 1, g3, c3, by omega, by go_num, rfl, Lib.hid (fun e => HNE.out e.symm), HO1, Lib.hid (by rw [List.take_add_one, HPT.out, Option.toList_some, ← List.append_assoc]; exact HO2.out), HGW8⟩
          case measure => simp [intOf]; omega
        · obtain rfl : t = x := by omega
          have e9 : (partI L ((zi : Nat) : Int)).take t = partI L ((zi : Nat) : Int) := List.take_of_length_le (by rw [HPL.out]; simp)
          have ho2b := ho2.out
          rw [e9, ← HIS.out] at ho2b
          have HO2 := Lib.hid ho2b
          have HSX := Lib.hid (show s + t = (innerN L (a.take (j + 1))).length by rw [HIS.out, List.length_append, HPL.out, hs.out]; simp)
          obtain ⟨s2, hs2⟩ : ∃ s2, s + t = s2 := ⟨_, rfl⟩
          rw [hs2] at HO2 HSX ⊢
          clear ho2b e9 ho2
          go_wp2_with fail
          go_roundw
          case rel => exact ⟨j + 1, g1', c1', g2', c2', s2, by omega, by go_num, rfl, rfl, hne, HSX, ho1, HO2, hgr2⟩
          case measure => simp [intOf]; omega
    · have hjn : j = q := by omega
      have e1 : a.take j = a := List.take_of_length_le (by have := HQ.out; omega)
      have hrow1 := ho1.out
      have hrow2 := ho2.out
      have hs' := hs.out
      rw [e1] at hrow1 hrow2 hs'
      subst hjn
      have HS := Lib.hid hs'
      clear hs'
      have t0 := HT2W.out.c0
      have t2 := HT2W.out.c2
      go_wp2_with fail
      refine (HSI2.out wo HGW.out).mono ?_
      rintro ee w6 ⟨A6, c6, rfl, hg6, hv6⟩
      have HG6 := Lib.hid hg6
      have hin6 : Ints wo (some ⟨g2, 0, none⟩) (innerN L a) := by
        have h := hrow2
        rw [HS.out] at h
        exact Ints.of_own h
      have h6 := HIH.out A6 B (some ⟨g2, 0, none⟩) c6 e c2 (sumI L) w6 (by rw [HNN.out, HM.out]; exact hv6) (hin6.grown hg6 (by simp))
      rw [HNN.out, HM.out, ← HS.out] at h6
      have H6 := Lib.hid h6
      have HR1 := Lib.hid hrow1
      clear h6 hin6 hv6 hrow1 hrow2 hg6 t0 t2
      go_wp2_with fail
      refine H6.out.mono ?_
      rintro ee w7 ⟨u7, rfl, hg7, hv7⟩
      obtain ⟨LL8, hLL8⟩ : ∃ x, lv LL.length (pickT LL D (innerN L a)) = x := ⟨_, rfl⟩
      obtain ⟨D8, hD8⟩ : ∃ x, dat LL.length (pickT LL D (innerN L a)) = x := ⟨_, rfl⟩
      have hl8 : LL8.length ≤ 3 := by rw [← hLL8, lv_len]; exact H3.out
      rw [hLL8, hD8] at hv7
      obtain ⟨A7, c7, B7, e7, rfl⟩ := vctN_form hv7
      have h56 : w5.heap.size ≤ w6.heap.size := Nat.le_trans hgr.out.size HG6.out.size
      have hrn : RowN w5.heap.size wo (some ⟨g1, 0, none⟩) (lensN L a) c1 := RowN.of_own (by rw [lensN_len, HQ.out]; exact HR1.out)
      have ho7 := souter_any w5.heap.size (some ⟨g1, 0, none⟩) A7 B7 c1 c7 e7 (lensN L a) _ LL8 D8 w7 (Nat.le_trans h56 hg7.size) ((hrn.move HG6.out (by simp)).move hg7 (by simp)) (hv7.lows h56) hl8
      rw [lensN_len, HQ.out] at ho7
      have HO7 := Lib.hid ho7
      have HG7 := Lib.hid hg7
      have HLL8 := Lib.hid hLL8
      have HD8 := Lib.hid hD8
      clear ho7 hrn h56 hv7 hl8 hLL8 hD8 hg7
      go_wp2_with fail
      refine HO7.out.mono ?_
      rintro ee w9 ⟨u, rfl, hg9, hv9⟩
      obtain ⟨A9, c9, B9, e9, rfl⟩ := vctN_form hv9
      obtain ⟨n9, hn9⟩ : ∃ x, (lensN L a :: LL8).length = x := ⟨_, rfl⟩
      obtain ⟨m9, hm9⟩ : ∃ x, D8.length = x := ⟨_, rfl⟩
      rw [hn9, hm9] at hv9 ⊢
      have T4 := ((HT4W.out.grown HG6.out (by simp)).grown HG7.out (by simp)).grown hg9 (by simp)
      have r0 := T4.c0
      have r1 := T4.c1
      have r2 := T4.c2
      have f0 := T4.f 0
      have f1 := T4.f 1
      have f2 := T4.f 2
      have HT9 := Lib.hid T4
      have HG9 := Lib.hid (((HGW.out.trans HG6.out).trans HG7.out).trans hg9)
      have HV9 := Lib.hid hv9
      have hlo := HT45.out.lt
      clear T4 hg9 hv9 hn9 hm9
      go_wp2_with fail
      have S1 := ((HT9.out.set0 (.int .i64 (j : Int))).set1 (.slice A9 n9 c9)).set2 (.slice B9 m9 e9)
      have hgz := ((gr_set w9 (w.heap.size + 1) 0 (.int .i64 (j : Int))).trans (gr_set _ (w.heap.size + 1) 1 (.slice A9 n9 c9))).trans (gr_set ((w9.setCell ⟨w.heap.size + 1, 0, none⟩ (.int .i64 (j : Int))).setCell ⟨w.heap.size + 1, 1, none⟩ (.slice A9 n9 c9)) (w.heap.size + 1) 2 (.slice B9 m9 e9))
      have s0 := S1.c0
      have s1 := S1.c1
      have s2 := S1.c2
      refine bodyPost_ret (v := .agg #[.int .i64 (j : Int), .slice A9 n9 c9, .slice B9 m9 e9]) (by simp [results, Try.results87, go_sem, s0, s1, s2]) rfl ?_
      refine ⟨_, rfl, gr_ownF HG9.out hgz (fun q hq => by cases hq; omega), ?_⟩
      have hv := (HV9.out.move hgz (fun g e => by cases e; omega)).lows (show w.heap.size ≤ w5.heap.size by omega)
      rw [← HLL8.out, ← HD8.out] at hv
      have e2 : lv (L :: LL).length (pickT (L :: LL) D a) = lensN L a :: lv LL.length (pickT LL D (innerN L a)) := HLV.out
      have e3 : dat (L :: LL).length (pickT (L :: LL) D a) = dat LL.length (pickT LL D (innerN L a)) := HDT.out
      rw [e2, e3, HQ.out]
      exact hv
end

/- SPickA -/
section
open Go.RowKit

theorem spick_any : ∀ (LL : List (List Int)) (D : List Int) (A B Aa : Option Addr) (c e ca : Nat) (k : Int) (a : List Int) (w : World) (p : Nat), Vct w (.agg #[.int .i64 k, .slice A LL.length c, .slice B D.length e]) k LL D → Ints w Aa a → Fits p LL D → InN p a → szN LL.length (pickT LL D a) ≤ 274877906944 → (∀ L ∈ LL, L.length ≤ 1048576) → LL.length ≤ 4 →
    Calls Try.prog 87 #[.agg #[.int .i64 k, .slice A LL.length c, .slice B D.length e], .slice Aa a.length ca] w (SPickP LL D a w)
  | [], D, A, B, Aa, c, e, ca, k, a, w, p, h, ha, hf, hin, hsz, _, _ => by
    refine spick_zero A B Aa c e ca k D a w p h ha hf hin ?_
    have h1 := szN_len 0 (pickT [] D a)
    have h2 : (pickT [] D a).length = a.length := picks_len (by
      have : (foldN ([] : List (List Int)).length [] D).length = p := by
        show (D.map Int.toNat).length = p
        rw [List.length_map]
        exact hf.1
      rw [this]
      exact hin)
    have h3 : szN 0 (pickT [] D a) ≤ 274877906944 := hsz
    omega
  | L :: LL, D, A, B, Aa, c, e, ca, k, a, w, p, h, ha, hf, hin, hsz, hle, h4 =>
    spick_succ L LL D (fun A B Aa c e ca k a w p h1 h2 h5 h6 h7 => spick_any LL D A B Aa c e ca k a w p h1 h2 h5 h6 h7 (fun L hL => hle L (List.mem_cons_of_mem _ hL)) (by simp at h4; omega))
      A B Aa c e ca k a w p h ha hf hin hsz (hle L (List.mem_cons_self ..)) (by simp at h4; omega)
end

/- SPickR -/
section
open Go.RowKit

/-- How l8RawPickVector ends. -/
def PickRP (k : Int) (LL : List (List Int)) (D a : List Int) (w : World) (e : Ending) (w' : World) : Prop := w.grownBy w' none ∧
  ((pickB k LL D a = false ∧ e = .returned (.tuple #[.agg #[.int .i64 0, .slice none 0 0, .slice none 0 0], .bool false])) ∨
   (pickB k LL D a = true ∧ ∃ u, e = .returned (.tuple #[u, .bool true]) ∧ VctC w' u (a.length : Int) (lv LL.length (pickT LL D a)) (dat LL.length (pickT LL D a))))

set_option maxRecDepth 100000 in
set_option maxHeartbeats 8000000 in
theorem spick_raw (A B Aa : Option Addr) (c e ca : Nat) (k : Int) (LL : List (List Int)) (D a : List Int) (w : World) (h : Vct w (.agg #[.int .i64 k, .slice A LL.length c, .slice B D.length e]) k LL D) (ha : Ints w Aa a) (hn : LL.length + totL LL + D.length ≤ 1048576) :
    Calls Try.prog 51 #[.agg #[.int .i64 k, .slice A LL.length c, .slice B D.length e], .slice Aa a.length ca] w (PickRP k LL D a w) := by
  have HV := Lib.hid (fun u (hg : w.grownBy u none) => svecok_any _ k LL D u (h.grown hg) hn)
  have HPK := Lib.hid (fun u p (hg : w.grownBy u none) hf hin hsz hle h4 => spick_any LL D A B Aa c e ca k a u p (h.grown hg) (ha.grown hg (by simp)) hf hin hsz hle h4)
  have HI := Lib.hid ha
  obtain ⟨n, hnn⟩ : ∃ n, LL.length = n := ⟨_, rfl⟩
  obtain ⟨m, hm⟩ : ∃ m, D.length = m := ⟨_, rfl⟩
  obtain ⟨q, hq⟩ : ∃ q, a.length = q := ⟨_, rfl⟩
  obtain ⟨o, ho⟩ : ∃ o, okV k LL D = o := ⟨_, rfl⟩
  have HO := Lib.hid ho
  have HN := Lib.hid hnn
  have HM := Lib.hid hm
  have HQQ := Lib.hid hq
  rw [hnn, hm, ho] at HV
  have HPK2 : Hid (∀ (u : World) (p : Nat), w.grownBy u none → Fits p LL D → InN p a → szN LL.length (pickT LL D a) ≤ 274877906944 → (∀ L ∈ LL, L.length ≤ 1048576) → LL.length ≤ 4 → Calls Try.prog 87 #[.agg #[.int .i64 k, .slice A n c, .slice B m e], .slice Aa q ca] u (SPickP LL D a u)) := Lib.hid (fun u p h1 h2 h3 h4 h5 h6 => by have := HPK.out u p h1 h2 h3 h4 h5 h6; rw [hnn, hm, hq] at this; exact this)
  rw [hnn, hm, hq]
  have HG0 := Lib.hid ((World.grownBy_alloc w (.cells #[.int .i64 k, .slice A n c, .slice B m e] 34) none).trans (World.grownBy_alloc _ (.cells #[.int .i64 0, .slice none 0 0, .slice none 0 0] 34) none))
  have HT0 := Lib.hid ((Tri.new w 34 (.int .i64 k) (.slice A n c) (.slice B m e)).alloc (.cells #[.int .i64 0, .slice none 0 0, .slice none 0 0] 34))
  have HR0 := Lib.hid (Tri.new (w.alloc (.cells #[.int .i64 k, .slice A n c, .slice B m e] 34)) 34 (.int .i64 0) (.slice none 0 0) (.slice none 0 0))
  have HNT := Lib.hid hn
  clear h ha hnn hm hq ho HPK hn
  cases o with
  | false =>
    clear HPK2
    go_enter Try.func51, Try.ntmps51
    have c0 := HT0.out.c0
    have c1 := HT0.out.c1
    have c2 := HT0.out.c2
    go_wp2_with fail
    have hsz : (w.alloc (.cells #[.int .i64 k, .slice A n c, .slice B m e] 34)).heap.size = w.heap.size + 1 := by simp
    generalize (w.alloc (.cells #[.int .i64 k, .slice A n c, .slice B m e] 34)).alloc (.cells #[.int .i64 0, .slice none 0 0, .slice none 0 0] 34) = w1 at HG0 HT0 HR0 c0 c1 c2 ⊢
    rw [hsz] at HR0
    clear hsz
    refine (HV.out _ HG0.out).mono ?_
    rintro ee w2 ⟨rfl, hg2⟩
    have HG2 := Lib.hid (HG0.out.trans hg2)
    have HT2 := Lib.hid (HT0.out.grown hg2 (by simp))
    have HR2 := Lib.hid (HR0.out.grown hg2 (by simp))
    clear hg2 c0 c1 c2
    have c0 := HT2.out.c0
    have c1 := HT2.out.c1
    have c2 := HT2.out.c2
    have r0 := HR2.out.c0
    have r1 := HR2.out.c1
    have r2 := HR2.out.c2
    have f0 := HR2.out.f 0
    have f1 := HR2.out.f 1
    have f2 := HR2.out.f 2
    go_wp2_with fail
    have S1 := ((HR2.out.set0 (.int .i64 0)).set1 (.slice none 0 0)).set2 (.slice none 0 0)
    have hgz := ((gr_set w2 (w.heap.size + 1) 0 (.int .i64 0)).trans (gr_set _ (w.heap.size + 1) 1 (.slice none 0 0))).trans (gr_set ((w2.setCell ⟨w.heap.size + 1, 0, none⟩ (.int .i64 0)).setCell ⟨w.heap.size + 1, 1, none⟩ (.slice none 0 0)) (w.heap.size + 1) 2 (.slice none 0 0))
    have s0 := S1.c0
    have s1 := S1.c1
    have s2 := S1.c2
    refine bodyPost_ret (v := .tuple #[.agg #[.int .i64 0, .slice none 0 0, .slice none 0 0], .bool false]) (by simp [results, Try.results51, go_sem, s0, s1, s2]) rfl ?_
    exact ⟨gr_ownF HG2.out hgz (fun q hq => by cases hq; omega), .inl ⟨by unfold pickB; rw [HO.out]; rfl, rfl⟩⟩
  | true =>
    obtain ⟨p, rfl, hp2, hn3, hfit⟩ := okV_fits HO.out
    have hpw : wrap64 ((p : Int) - 1) = (p : Int) - 1 := by unfold wrap64; omega
    have HFIT := Lib.hid hfit
    clear hfit
    by_cases hq2 : 2000 < q
    · clear HPK2
      go_enter Try.func51, Try.ntmps51
      have c0 := HT0.out.c0
      have c1 := HT0.out.c1
      have c2 := HT0.out.c2
      go_wp2_with fail
      have hsz : (w.alloc (.cells #[.int .i64 (p : Int), .slice A n c, .slice B m e] 34)).heap.size = w.heap.size + 1 := by simp
      generalize (w.alloc (.cells #[.int .i64 (p : Int), .slice A n c, .slice B m e] 34)).alloc (.cells #[.int .i64 0, .slice none 0 0, .slice none 0 0] 34) = w1 at HG0 HT0 HR0 c0 c1 c2 ⊢
      rw [hsz] at HR0
      clear hsz
      refine (HV.out _ HG0.out).mono ?_
      rintro ee w2 ⟨rfl, hg2⟩
      have HG2 := Lib.hid (HG0.out.trans hg2)
      have HT2 := Lib.hid (HT0.out.grown hg2 (by simp))
      have HR2 := Lib.hid (HR0.out.grown hg2 (by simp))
      clear hg2 c0 c1 c2
      have c0 := HT2.out.c0
      have c1 := HT2.out.c1
      have c2 := HT2.out.c2
      have r0 := HR2.out.c0
      have r1 := HR2.out.c1
      have r2 := HR2.out.c2
      have f0 := HR2.out.f 0
      have f1 := HR2.out.f 1
      have f2 := HR2.out.f 2
      go_wp2_with fail
      have S1 := ((HR2.out.set0 (.int .i64 0)).set1 (.slice none 0 0)).set2 (.slice none 0 0)
      have hgz := ((gr_set w2 (w.heap.size + 1) 0 (.int .i64 0)).trans (gr_set _ (w.heap.size + 1) 1 (.slice none 0 0))).trans (gr_set ((w2.setCell ⟨w.heap.size + 1, 0, none⟩ (.int .i64 0)).setCell ⟨w.heap.size + 1, 1, none⟩ (.slice none 0 0)) (w.heap.size + 1) 2 (.slice none 0 0))
      have s0 := S1.c0
      have s1 := S1.c1
      have s2 := S1.c2
      refine bodyPost_ret (v := .tuple #[.agg #[.int .i64 0, .slice none 0 0, .slice none 0 0], .bool false]) (by simp [results, Try.results51, go_sem, s0, s1, s2]) rfl ?_
      exact ⟨gr_ownF HG2.out hgz (fun q hq => by cases hq; omega), .inl ⟨by unfold pickB; rw [decide_eq_false (show ¬ a.length ≤ 2000 by have := HQQ.out; omega)]; simp, rfl⟩⟩
    · have hq3 : q ≤ 2000 := by omega
      clear hq2
      go_enter Try.func51, Try.ntmps51
      have c0 := HT0.out.c0
      have c1 := HT0.out.c1
      have c2 := HT0.out.c2
      go_wp2_with fail
      have hsz : (w.alloc (.cells #[.int .i64 (p : Int), .slice A n c, .slice B m e] 34)).heap.size = w.heap.size + 1 := by simp
      generalize (w.alloc (.cells #[.int .i64 (p : Int), .slice A n c, .slice B m e] 34)).alloc (.cells #[.int .i64 0, .slice none 0 0, .slice none 0 0] 34) = w1 at HG0 HT0 HR0 c0 c1 c2 ⊢
      rw [hsz] at HR0
      clear hsz
      refine (HV.out _ HG0.out).mono ?_
      rintro ee w2 ⟨rfl, hg2⟩
      have HG2 := Lib.hid (HG0.out.trans hg2)
      have HT2 := Lib.hid (HT0.out.grown hg2 (by simp))
      have HR2 := Lib.hid (HR0.out.grown hg2 (by simp))
      clear hg2 c0 c1 c2
      have c0 := HT2.out.c0
      have c1 := HT2.out.c1
      have c2 := HT2.out.c2
      go_wp2_with fail
      generalize hB2 : w2.heap.size = B2
      clear c0 c1 c2 hB2
      go_loopw [7, 19] (fun _ i wr => ∃ (j : Nat), j ≤ q ∧ i = .int .i64 j ∧ Hid (okN ((p : Int) - 1) (a.take j) = true) ∧ Hid (wr = w2)) (fun _ i _ => q - (intOf i).toNat)
      case atStart => exact ⟨0, Nat.zero_le _, rfl, Lib.hid rfl, Lib.hid rfl⟩
      case round =>
        obtain ⟨j, hj, rfl, hok, hw⟩ := hrel
        obtain rfl := hw.out
        have c0 := HT2.out.c0
        by_cases hlt : j < q
        · obtain ⟨z, hz⟩ : ∃ z, a[j]? = some z := ⟨_, List.getElem?_eq_getElem (by have := HQQ.out; omega)⟩
          obtain ⟨ba, offa, rfl, _, hca⟩ := (HI.out.grown HG2.out (by simp)) (by have := HQQ.out; omega)
          have hcell := hca j _ hz
          have HZ := Lib.hid hz
          clear hca hz
          by_cases hzb : 0 ≤ z ∧ z ≤ (p : Int) - 1
          · have HIN := Lib.hid (fun u => in_any z 0 ((p : Int) - 1) true (decide_eq_true hzb) u)
            have HZB := Lib.hid hzb
            clear hzb
            go_wp2_with fail
            refine (HIN.out _).mono ?_
            rintro ee w3 ⟨rfl, rfl⟩
            go_wp2_with fail
            go_roundw
            case rel => exact ⟨j + 1, by omega, by go_num, Lib.hid (okN_step HZ.out hok.out HZB.out.1 HZB.out.2), Lib.hid trivial⟩
            case measure => simp [intOf]; omega
          · have HIN := Lib.hid (fun u => in_any z 0 ((p : Int) - 1) false (decide_eq_false hzb) u)
            have hbad : okN ((p : Int) - 1) a = false := okN_bad HZ.out (by omega)
            have HBAD := Lib.hid hbad
            clear hzb hbad
            go_wp2_with fail
            refine (HIN.out _).mono ?_
            rintro ee w3 ⟨rfl, rfl⟩
            clear c0 hcell
            have r0 := HR2.out.c0
            have r1 := HR2.out.c1
            have r2 := HR2.out.c2
            have f0 := HR2.out.f 0
            have f1 := HR2.out.f 1
            have f2 := HR2.out.f 2
            go_wp2_with fail
            have S1 := ((HR2.out.set0 (.int .i64 0)).set1 (.slice none 0 0)).set2 (.slice none 0 0)
            have hgz := ((gr_set w3 (w.heap.size + 1) 0 (.int .i64 0)).trans (gr_set _ (w.heap.size + 1) 1 (.slice none 0 0))).trans (gr_set ((w3.setCell ⟨w.heap.size + 1, 0, none⟩ (.int .i64 0)).setCell ⟨w.heap.size + 1, 1, none⟩ (.slice none 0 0)) (w.heap.size + 1) 2 (.slice none 0 0))
            have s0 := S1.c0
            have s1 := S1.c1
            have s2 := S1.c2
            refine bodyPost_ret (v := .tuple #[.agg #[.int .i64 0, .slice none 0 0, .slice none 0 0], .bool false]) (by simp [results, Try.results51, go_sem, s0, s1, s2]) rfl ?_
            exact ⟨gr_ownF HG2.out hgz (fun q hq => by cases hq; omega), .inl ⟨by unfold pickB; rw [HBAD.out]; simp, rfl⟩⟩
        · have hjn : j = q := by omega
          have e1 : a.take j = a := List.take_of_length_le (by have := HQQ.out; omega)
          have hok2 := hok.out
          rw [e1] at hok2
          have hin := okN_inN hok2
          have hpk : pickB (p : Int) LL D a = true := by
            unfold pickB
            rw [HO.out, hok2, decide_eq_true (show a.length ≤ 2000 by have := HQQ.out; omega)]
            rfl
          have HPB := Lib.hid hpk
          obtain ⟨hL1, hD1⟩ := fold_lv LL.length p LL D rfl HFIT.out
          have hszn : szN LL.length (foldN LL.length LL D) ≤ 1048576 := by have := HNT.out; unfold szN; rw [hL1, hD1]; omega
          have hsm : szN LL.length (pickT LL D a) ≤ a.length * szN LL.length (foldN LL.length LL D) := szN_picks (foldN LL.length LL D) a
          have hmul : a.length * szN LL.length (foldN LL.length LL D) ≤ 2000 * 1048576 := Nat.mul_le_mul (by have := HQQ.out; omega) hszn
          have hle : ∀ L ∈ LL, L.length ≤ 1048576 := fun L hL => by
            obtain ⟨i, hi⟩ := List.mem_iff_getElem?.1 hL
            have := totL_at hi
            have := HNT.out
            omega
          have HC := Lib.hid (HPK2.out _ p HG2.out HFIT.out hin (Nat.le_trans (Nat.le_trans hsm hmul) (by decide)) hle (by omega))
          subst hjn
          have c1 := HT2.out.c1
          have c2 := HT2.out.c2
          clear hL1 hD1 hszn hsm hmul hle hin hok2 hpk e1
          go_wp2_with fail
          refine HC.out.mono ?_
          rintro ee w9 ⟨u, rfl, hg9, hv9⟩
          obtain ⟨A9, c9, B9, e9, rfl⟩ := vctN_form hv9
          obtain ⟨n9, hn9⟩ : ∃ x, (lv LL.length (pickT LL D a)).length = x := ⟨_, rfl⟩
          obtain ⟨m9, hm9⟩ : ∃ x, (dat LL.length (pickT LL D a)).length = x := ⟨_, rfl⟩
          rw [hn9, hm9] at hv9 ⊢
          have hql : (a.length : Int) = (j : Int) := by rw [HQQ.out]
          rw [hql] at hv9 ⊢
          have T4 := HR2.out.grown hg9 (by simp)
          have r0 := T4.c0
          have r1 := T4.c1
          have r2 := T4.c2
          have f0 := T4.f 0
          have f1 := T4.f 1
          have f2 := T4.f 2
          have HT9 := Lib.hid T4
          have HG9 := Lib.hid (HG2.out.trans hg9)
          have HV9 := Lib.hid hv9
          have hlo := HR2.out.lt
          have HQL := Lib.hid hql
          clear T4 hg9 hv9 hn9 hm9 hql c0 c1 c2
          go_wp2_with fail
          have S1 := ((HT9.out.set0 (.int .i64 (j : Int))).set1 (.slice A9 n9 c9)).set2 (.slice B9 m9 e9)
          have hgz := ((gr_set w9 (w.heap.size + 1) 0 (.int .i64 (j : Int))).trans (gr_set _ (w.heap.size + 1) 1 (.slice A9 n9 c9))).trans (gr_set ((w9.setCell ⟨w.heap.size + 1, 0, none⟩ (.int .i64 (j : Int))).setCell ⟨w.heap.size + 1, 1, none⟩ (.slice A9 n9 c9)) (w.heap.size + 1) 2 (.slice B9 m9 e9))
          have s0 := S1.c0
          have s1 := S1.c1
          have s2 := S1.c2
          refine bodyPost_ret (v := .tuple #[.agg #[.int .i64 (j : Int), .slice A9 n9 c9, .slice B9 m9 e9], .bool true]) (by simp [results, Try.results51, go_sem, s0, s1, s2]) rfl ?_
          refine ⟨gr_ownF HG9.out hgz (fun q hq => by cases hq; omega), .inr ⟨HPB.out, _, rfl, ?_⟩⟩
          rw [HQL.out]
          exact (HV9.out.move hgz (fun g e => by cases e; omega)).c
end

/- OwnV -/
section
open Go.RowKit

set_option maxHeartbeats 1000000 in
theorem ownvec_any (v : Value) (k : Int) (LL : List (List Int)) (D : List Int) (w : World) (h : VctC w v k LL D) (hn : LL.length ≤ 1099511627776) (hm : ∀ M ∈ LL, M.length ≤ 1099511627776) (hd : D.length ≤ 1099511627776) :
    Calls Try.prog 48 #[v] w fun e w' => ∃ u, e = .returned u ∧ w.grownBy w' none ∧ OwnVct w' w.heap.size u k LL D := by
  obtain ⟨x, y, rfl, hl⟩ := h
  have HZ := Lib.hid (fun w h => ownl_any (.agg #[x, y]) LL D w h hn hm hd)
  obtain ⟨A, c, B, d, he, _⟩ := id hl
  cases he
  obtain ⟨n, hnn⟩ : ∃ n, LL.length = n := ⟨_, rfl⟩
  obtain ⟨m, hmm⟩ : ∃ m, D.length = m := ⟨_, rfl⟩
  have HN := Lib.hid hnn
  have HM := Lib.hid hmm
  rw [hnn, hmm] at HZ hl ⊢
  have HL := Lib.hid hl
  clear hn hm hd hnn hmm hl
  go_enter Try.func48, Try.ntmps48
  go_wp2_with fail
  have hg0 : w.grownBy ((w.alloc (.cells #[.int .i64 k, .slice A n c, .slice B m d] 34)).alloc (.cells #[.int .i64 0, .slice none 0 0, .slice none 0 0] 34)) none :=
    (World.grownBy_alloc _ _ _).trans (World.grownBy_alloc _ _ _)
  have P0 := (Tri.new w 34 (.int .i64 k) (.slice A n c) (.slice B m d)).alloc (.cells #[.int .i64 0, .slice none 0 0, .slice none 0 0] 34)
  have P1 := Tri.new (w.alloc (.cells #[.int .i64 k, .slice A n c, .slice B m d] 34)) 34 (.int .i64 0) (.slice none 0 0) (.slice none 0 0)
  rw [sz_alloc] at P1
  generalize (w.alloc (.cells #[.int .i64 k, .slice A n c, .slice B m d] 34)).alloc (.cells #[.int .i64 0, .slice none 0 0, .slice none 0 0] 34) = u0 at hg0 P0 P1 ⊢
  have hs0 : w.heap.size + 1 < u0.heap.size := P1.lt
  refine (HZ.out _ (HL.out.grown hg0)).mono ?_
  rintro e w1 ⟨u, rfl, hg1, ho1⟩
  obtain ⟨A1, c1, B1, d1, rfl, _⟩ := id ho1.lyt
  rw [HN.out, HM.out] at ho1 ⊢
  have Q0 := P0.grown hg1 (by simp)
  have Q1 := P1.grown hg1 (by simp)
  have HG1 := Lib.hid (hg0.trans hg1)
  have a0 := Q0.c0
  have a1 := Q0.c1
  have a2 := Q0.c2
  have f0 := Q0.f 0
  have f1 := Q0.f 1
  have f2 := Q0.f 2
  have b0 := Q1.c0
  have b1 := Q1.c1
  have b2 := Q1.c2
  have e0 := Q1.f 0
  have e1 := Q1.f 1
  have e2 := Q1.f 2
  have HQ0 := Lib.hid Q0
  have HQ1 := Lib.hid Q1
  have HO1 := Lib.hid ho1
  clear hg0 P0 P1 hg1 ho1 Q0 Q1
  go_wp2_with fail
  have T2 := (HQ0.out.set1 (.slice A1 n c1)).set2 (.slice B1 m d1)
  have hgs := (gr_set w1 w.heap.size 1 (.slice A1 n c1)).trans (gr_set (w1.setCell ⟨w.heap.size, 1, none⟩ (.slice A1 n c1)) w.heap.size 2 (.slice B1 m d1))
  have T1 := HQ1.out.grown hgs (by simp)
  have ho2 := HO1.out.keep (fun q hq hq2 => hgs.block q hq2 (by simp; omega))
  have hG2 := gr_ownF HG1.out hgs (fun q hq => by cases hq; omega)
  generalize (w1.setCell ⟨w.heap.size, 1, none⟩ (.slice A1 n c1)).setCell ⟨w.heap.size, 2, none⟩ (.slice B1 m d1) = w2 at T1 T2 hgs ho2 hG2 ⊢
  have S1 := ((T1.set0 (.int .i64 k)).set1 (.slice A1 n c1)).set2 (.slice B1 m d1)
  have hgz := ((gr_set w2 (w.heap.size + 1) 0 (.int .i64 k)).trans (gr_set _ (w.heap.size + 1) 1 (.slice A1 n c1))).trans (gr_set ((w2.setCell ⟨w.heap.size + 1, 0, none⟩ (.int .i64 k)).setCell ⟨w.heap.size + 1, 1, none⟩ (.slice A1 n c1)) (w.heap.size + 1) 2 (.slice B1 m d1))
  have r0 := S1.c0
  have r1 := S1.c1
  have r2 := S1.c2
  refine bodyPost_ret (v := .agg #[.int .i64 k, .slice A1 n c1, .slice B1 m d1]) (by simp [results, Try.results48, go_sem, r0, r1, r2]) rfl ?_
  have ho3 := ho2.keep (fun q hq hq2 => hgz.block q hq2 (by simp; omega))
  exact ⟨_, rfl, gr_ownF hG2 hgz (fun q hq => by cases hq; omega), _, _, rfl, ho3.lows (by omega)⟩

theorem VctC.zero (w : World) : VctC w (.agg #[.int .i64 0, .slice none 0 0, .slice none 0 0]) 0 [] [] := ⟨_, _, rfl, LytC.zero w⟩
end

/- SPickV -/
section
open Go.RowKit

/-- What PickVector answers: the count, the levels, the numbers. -/
def pkK (k : Int) (LL : List (List Int)) (D a : List Int) : Int := if pickB k LL D a = true then (a.length : Int) else 0
def pkL (k : Int) (LL : List (List Int)) (D a : List Int) : List (List Int) := if pickB k LL D a = true then lv LL.length (pickT LL D a) else []
def pkD (k : Int) (LL : List (List Int)) (D a : List Int) : List Int := if pickB k LL D a = true then dat LL.length (pickT LL D a) else []
theorem pk_bound {k : Int} {LL : List (List Int)} {D a : List Int} (hn : LL.length + totL LL + D.length ≤ 1048576) : (pkL k LL D a).length ≤ 3 ∧ totL (pkL k LL D a) + (pkD k LL D a).length ≤ 2097152000 := by
  unfold pkL pkD
  split
  · next h =>
    unfold pickB at h
    simp only [Bool.and_eq_true, decide_eq_true_eq] at h
    obtain ⟨p, rfl, hp2, hn3, hfit⟩ := okV_fits h.1
    obtain ⟨hL1, hD1⟩ := fold_lv LL.length p LL D rfl hfit
    have hszn : szN LL.length (foldN LL.length LL D) ≤ 1048576 := by unfold szN; rw [hL1, hD1]; omega
    have hsm : szN LL.length (pickT LL D a) ≤ a.length * szN LL.length (foldN LL.length LL D) := szN_picks (foldN LL.length LL D) a
    have hmul : a.length * szN LL.length (foldN LL.length LL D) ≤ 2000 * 1048576 := Nat.mul_le_mul h.2.1 hszn
    have h9 := Nat.le_trans hsm hmul
    unfold szN at h9
    rw [lv_len]
    exact ⟨hn3, by omega⟩
  · simp [totL]

set_option maxRecDepth 100000 in
set_option maxHeartbeats 1000000 in
theorem spick_of (x0 : Int) (A0 B0 Aa : Option Addr) (n0 c0 m0 d0 q ca : Nat) (k : Int) (LL : List (List Int)) (D : List Int) (b : Bool) (w : World) (hb : LL.length ≤ 3 ∧ totL LL + D.length ≤ 2097152000)
    (h : ∀ u, w.grownBy u none → Calls Try.prog 51 #[.agg #[.int .i64 x0, .slice A0 n0 c0, .slice B0 m0 d0], .slice Aa q ca] u fun e w' => ∃ v, e = .returned (.tuple #[v, .bool b]) ∧ u.grownBy w' none ∧ VctC w' v k LL D) :
    Calls Try.prog 22 #[.agg #[.int .i64 x0, .slice A0 n0 c0, .slice B0 m0 d0], .slice Aa q ca] w fun e w' => ∃ u, e = .returned (.tuple #[u, .bool b]) ∧ w.grownBy w' none ∧ Vct w' u k LL D := by
  have hg0 := (World.grownBy_alloc w (.cells #[.int .i64 x0, .slice A0 n0 c0, .slice B0 m0 d0] 34) none).trans (World.grownBy_alloc _ (.cells #[.int .i64 0, .slice none 0 0, .slice none 0 0] 34) none)
  have HC := Lib.hid (h _ hg0)
  have hp0 := Tri.new (w.alloc (.cells #[.int .i64 x0, .slice A0 n0 c0, .slice B0 m0 d0] 34)) 34 (.int .i64 0) (.slice none 0 0) (.slice none 0 0)
  rw [sz_alloc] at hp0
  have HP0 := Lib.hid hp0
  have HX0 := Lib.hid ((Tri.new w 34 (.int .i64 x0) (.slice A0 n0 c0) (.slice B0 m0 d0)).alloc (.cells #[.int .i64 0, .slice none 0 0, .slice none 0 0] 34))
  have x0c := HX0.out.c0
  have x1c := HX0.out.c1
  have x2c := HX0.out.c2
  have HG0 := Lib.hid hg0
  have HO := Lib.hid (fun v u (h : VctC u v k LL D) => ownvec_any v k LL D u h (by omega) (fun M hM => by
    obtain ⟨i, hi⟩ := List.getElem?_of_mem hM
    have := totL_at hi
    omega) (by omega))
  clear h hg0 hb hp0
  go_enter Try.func22, Try.ntmps22
  go_wp2_with fail
  refine HC.out.mono ?_
  rintro e w1 ⟨v, rfl, hg1, hv1⟩
  obtain ⟨x, y, rfl, hl1⟩ := id hv1
  obtain ⟨A1, c1, B1, d1, he, _⟩ := hl1
  cases he
  obtain ⟨na, hna⟩ : ∃ na, LL.length = na := ⟨_, rfl⟩
  obtain ⟨nd', hnd⟩ : ∃ nd', D.length = nd' := ⟨_, rfl⟩
  have HNA := Lib.hid hna
  have HND := Lib.hid hnd
  rw [hna, hnd] at hv1 ⊢
  have hgA := World.grownBy_alloc w1 (.cells #[.int .i64 k, .slice A1 na c1, .slice B1 nd' d1] 34) none
  have hvA : VctC (w1.alloc (.cells #[.int .i64 k, .slice A1 na c1, .slice B1 nd' d1] 34)) (.agg #[.int .i64 k, .slice A1 na c1, .slice B1 nd' d1]) k LL D := by
    obtain ⟨x, y, he, hl⟩ := hv1
    exact ⟨x, y, he, hl.grown hgA⟩
  have HV := Lib.hid hvA
  have HP1 := Lib.hid ((HP0.out.grown hg1 (by simp)).alloc (.cells #[.int .i64 k, .slice A1 na c1, .slice B1 nd' d1] 34))
  have HG1 := Lib.hid ((HG0.out.trans hg1).trans hgA)
  clear hg1 hv1 hna hnd hgA hvA x0c x1c x2c
  go_wp2_with fail
  refine (HO.out _ _ HV.out).mono ?_
  rintro e w2 ⟨u, rfl, hg2, ho2⟩
  obtain ⟨A2, c2, B2, d2, rfl, _⟩ := id ho2.vct
  rw [HNA.out, HND.out] at ho2 ⊢
  have T2 := HP1.out.grown hg2 (by simp)
  have r0 := T2.c0
  have r1 := T2.c1
  have r2 := T2.c2
  have f0 := T2.f 0
  have f1 := T2.f 1
  have f2 := T2.f 2
  have HT2 := Lib.hid T2
  have HG2 := Lib.hid (HG1.out.trans hg2)
  have HO2 := Lib.hid ho2
  have hlo := HP1.out.lt
  have HLO := Lib.hid hlo
  clear T2 hg2 ho2 hlo
  go_wp2_with fail
  have S1 := ((HT2.out.set0 (.int .i64 k)).set1 (.slice A2 na c2)).set2 (.slice B2 nd' d2)
  have hgz := ((gr_set w2 (w.heap.size + 1) 0 (.int .i64 k)).trans (gr_set _ (w.heap.size + 1) 1 (.slice A2 na c2))).trans (gr_set ((w2.setCell ⟨w.heap.size + 1, 0, none⟩ (.int .i64 k)).setCell ⟨w.heap.size + 1, 1, none⟩ (.slice A2 na c2)) (w.heap.size + 1) 2 (.slice B2 nd' d2))
  have s0 := S1.c0
  have s1 := S1.c1
  have s2 := S1.c2
  refine bodyPost_ret (v := .tuple #[.agg #[.int .i64 k, .slice A2 na c2, .slice B2 nd' d2], .bool b]) (by simp [results, Try.results22, go_sem, s0, s1, s2]) rfl ?_
  exact ⟨_, rfl, gr_ownF HG2.out hgz (fun q hq => by cases hq; omega), (HO2.out.kept (base' := 0) (fun u hu => (hu.keep (fun q hq hq2 => hgz.block q hq2 (by have := HLO.out; simp; omega))).lows (Nat.zero_le _))).vct⟩

theorem spickv_any (A B Aa : Option Addr) (c e ca : Nat) (k : Int) (LL : List (List Int)) (D a : List Int) (w : World) (h : Vct w (.agg #[.int .i64 k, .slice A LL.length c, .slice B D.length e]) k LL D) (ha : Ints w Aa a) (hn : LL.length + totL LL + D.length ≤ 1048576) :
    Calls Try.prog 22 #[.agg #[.int .i64 k, .slice A LL.length c, .slice B D.length e], .slice Aa a.length ca] w fun ee w' => ∃ u, ee = .returned (.tuple #[u, .bool (pickB k LL D a)]) ∧ w.grownBy w' none ∧ Vct w' u (pkK k LL D a) (pkL k LL D a) (pkD k LL D a) := by
  refine spick_of k A B Aa LL.length c D.length e a.length ca (pkK k LL D a) (pkL k LL D a) (pkD k LL D a) (pickB k LL D a) w (pk_bound hn) fun u hg => (spick_raw A B Aa c e ca k LL D a u (h.grown hg) (ha.grown hg (by simp)) hn).mono ?_
  rintro ee w' ⟨hg', hh⟩
  unfold pkK pkL pkD
  rcases hh with ⟨hb, rfl⟩ | ⟨hb, v, rfl, hv⟩
  · rw [hb]
    exact ⟨_, rfl, hg', by simpa using VctC.zero w'⟩
  · rw [hb]
    exact ⟨_, rfl, hg', by simpa using hv⟩
end

/- TovQ -/
section
open Go.RowKit

theorem OwnLytQ.keepQ {w w' : World} {base : Nat} {v : Value} {LL : List (List Int)} {D : List Int} (h : OwnLytQ w base v LL D) (hk : ∀ g, base ≤ g → g < w.heap.size → w'.heap[g]? = w.heap[g]?) : OwnLytQ w' base v LL D := by
  obtain ⟨A, c, d, vs, rfl, hc, ho, hf⟩ := h
  exact ⟨A, c, d, vs, rfl, hc, own_keep ho (fun g hg => hk g (ho.lt g hg).1 (ho.lt g hg).2), hf.kept (fun i L v g hi hL hv hl hg => hk g (hf.lt hi hL hv hl hg).1 (hf.lt hi hL hv hl hg).2)⟩
theorem OwnLytQ.vctq {w : World} {base : Nat} {x y : Value} {n : Int} {LL : List (List Int)} {D : List Int} (h : OwnLytQ w base (.agg #[x, y]) LL D) : VctQ w (.agg #[.int .i64 n, x, y]) n LL D := by
  obtain ⟨A, c, d, vs, he, hc, ho, hf⟩ := h
  simp only [Value.agg.injEq, Array.mk.injEq, List.cons.injEq, and_true] at he
  obtain ⟨rfl, rfl⟩ := he
  have hlen : vs.length = LL.length := by have := ho.1; omega
  obtain ⟨d', hd', B, e, hdv, hec, hod⟩ := hf.1 LL.length D (by omega) (by simp)
  rw [List.getElem?_append_right (by omega), hlen] at hd'
  simp only [Nat.sub_self, List.getElem?_cons_zero, Option.some.injEq] at hd'
  subst hd'
  refine ⟨A, c, B, e, by rw [hdv], hc, by rw [← hdv]; exact own_slb (hod trivial), ?_⟩
  have hcell := fun g => ho.cells (g := g)
  rcases ho.2 with ⟨hv, hn⟩ | ⟨g, cap, cur, hv, _, hg, hnc, _⟩
  · simp only [Value.slice.injEq] at hv
    exact .inl ⟨hv.1, hv.2.2⟩
  · cases hv
    refine .inr ⟨g, 0, rfl, (Array.getElem?_eq_some_iff.1 hg).1, fun i L hL => ?_⟩
    have hi := (List.getElem?_eq_some_iff.1 hL).1
    obtain ⟨v, hv, A2, c2, _, _, ho2⟩ := hf.1 i L (by omega) (by rw [List.getElem?_append_left hi]; exact hL)
    rw [List.getElem?_append_left (by omega)] at hv
    exact ⟨v, by have := hcell g rfl i v hv; rwa [addr_flat] at this, own_slb (ho2 trivial)⟩

set_option maxHeartbeats 1000000 in
theorem tovq_any (v : Value) (k : Int) (LL : List (List Int)) (D : List Int) (w : World) (h : Vct w v k LL D) (hn : LL.length + totL LL + D.length ≤ 1048576) :
    Calls Try.prog 23 #[v] w fun e w' => ∃ u, e = .returned u ∧ w.grownBy w' none ∧ OwnVct w' w.heap.size u k LL D ∧ VctQ w' u k LL D := by
  obtain ⟨x, y, rfl, hl⟩ := h.lyt
  have HZ := Lib.hid (fun w h => tolq_any (.agg #[x, y]) LL D w h hn)
  obtain ⟨A, c, B, d, he, _⟩ := id hl
  cases he
  obtain ⟨n, hnn⟩ : ∃ n, LL.length = n := ⟨_, rfl⟩
  obtain ⟨m, hm⟩ : ∃ m, D.length = m := ⟨_, rfl⟩
  have HN := Lib.hid hnn
  have HM := Lib.hid hm
  rw [hnn, hm] at HZ hl ⊢
  have HL := Lib.hid hl
  clear h hn hnn hm hl
  go_enter Try.func23, Try.ntmps23
  go_wp2_with fail
  have hg0 : w.grownBy (((w.alloc (.cells #[.int .i64 k, .slice A n c, .slice B m d] 44)).alloc (.cells #[.int .i64 0, .slice none 0 0, .slice none 0 0] 34)).alloc (.cells #[.int .i64 k, .slice none 0 0, .slice none 0 0] 34)) none :=
    ((World.grownBy_alloc _ _ _).trans (World.grownBy_alloc _ _ _)).trans (World.grownBy_alloc _ _ _)
  have P1 := (Tri.new (w.alloc (.cells #[.int .i64 k, .slice A n c, .slice B m d] 44)) 34 (.int .i64 0) (.slice none 0 0) (.slice none 0 0)).alloc (.cells #[.int .i64 k, .slice none 0 0, .slice none 0 0] 34)
  have P2 := Tri.new ((w.alloc (.cells #[.int .i64 k, .slice A n c, .slice B m d] 44)).alloc (.cells #[.int .i64 0, .slice none 0 0, .slice none 0 0] 34)) 34 (.int .i64 k) (.slice none 0 0) (.slice none 0 0)
  rw [sz_alloc] at P1
  rw [sz_alloc, sz_alloc] at P2
  generalize ((w.alloc (.cells #[.int .i64 k, .slice A n c, .slice B m d] 44)).alloc (.cells #[.int .i64 0, .slice none 0 0, .slice none 0 0] 34)).alloc (.cells #[.int .i64 k, .slice none 0 0, .slice none 0 0] 34) = u0 at hg0 P1 P2 ⊢
  have hs0 : w.heap.size + 1 + 1 < u0.heap.size := P2.lt
  refine (HZ.out _ (HL.out.grown hg0)).mono ?_
  rintro e w1 ⟨u, rfl, hg1, ho1⟩
  obtain ⟨A1, c1, B1, d1, rfl, _⟩ := id ho1.own.lyt
  rw [HN.out, HM.out] at ho1 ⊢
  have Q1 := P1.grown hg1 (by simp)
  have Q2 := P2.grown hg1 (by simp)
  have HG1 := Lib.hid (hg0.trans hg1)
  have a0 := Q1.c0
  have a1 := Q1.c1
  have a2 := Q1.c2
  have f0 := Q1.f 0
  have f1 := Q1.f 1
  have f2 := Q1.f 2
  have b0 := Q2.c0
  have b1 := Q2.c1
  have b2 := Q2.c2
  have e0 := Q2.f 0
  have e1 := Q2.f 1
  have e2 := Q2.f 2
  have HQ1 := Lib.hid Q1
  have HQ2 := Lib.hid Q2
  have HO1 := Lib.hid ho1
  clear hg0 P1 P2 hg1 ho1 Q1 Q2
  go_wp2_with fail
  obtain ⟨g, hg⟩ : ∃ g, w.heap.size + 1 = g := ⟨_, rfl⟩
  obtain ⟨g2, hg2⟩ : ∃ g2, w.heap.size + 1 + 1 = g2 := ⟨_, rfl⟩
  have T2 := (HQ2.out.set1 (.slice A1 n c1)).set2 (.slice B1 m d1)
  have hgs := (gr_set w1 (w.heap.size + 1 + 1) 1 (.slice A1 n c1)).trans (gr_set (w1.setCell ⟨w.heap.size + 1 + 1, 1, none⟩ (.slice A1 n c1)) (w.heap.size + 1 + 1) 2 (.slice B1 m d1))
  have T1 := HQ1.out.grown hgs (by simp)
  have ho2 := HO1.out.keepQ (fun q hq hq2 => hgs.block q hq2 (by simp; omega))
  have hG2 := gr_ownF HG1.out hgs (fun q hq => by cases hq; omega)
  generalize (w1.setCell ⟨w.heap.size + 1 + 1, 1, none⟩ (.slice A1 n c1)).setCell ⟨w.heap.size + 1 + 1, 2, none⟩ (.slice B1 m d1) = w2 at T1 T2 hgs ho2 hG2 ⊢
  have S1 := ((T1.set0 (.int .i64 k)).set1 (.slice A1 n c1)).set2 (.slice B1 m d1)
  have hgz := ((gr_set w2 (w.heap.size + 1) 0 (.int .i64 k)).trans (gr_set _ (w.heap.size + 1) 1 (.slice A1 n c1))).trans (gr_set ((w2.setCell ⟨w.heap.size + 1, 0, none⟩ (.int .i64 k)).setCell ⟨w.heap.size + 1, 1, none⟩ (.slice A1 n c1)) (w.heap.size + 1) 2 (.slice B1 m d1))
  have r0 := S1.c0
  have r1 := S1.c1
  have r2 := S1.c2
  refine bodyPost_ret (v := .agg #[.int .i64 k, .slice A1 n c1, .slice B1 m d1]) (by simp [results, Try.results23, go_sem, r0, r1, r2]) rfl ?_
  have ho3 := ho2.keepQ (fun q hq hq2 => hgz.block q hq2 (by simp; omega))
  exact ⟨_, rfl, gr_ownF hG2 hgz (fun q hq => by cases hq; omega), ⟨_, _, rfl, ho3.own.lows (by omega)⟩, ho3.vctq⟩
end

end Go.Proofs.Ytdfanconjiiceaa
