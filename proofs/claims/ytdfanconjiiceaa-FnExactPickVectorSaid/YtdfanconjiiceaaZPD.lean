/- 9 texts in one: IntB Mark MarkH VMark MarkA VMarkA LytArg LytL VecArg. -/
import Derived.Test.YtdfanconjiiceaaIntE
import Derived.Test.YtdfanconjiiceaaFam
import Derived.Test.YtdfanconjiiceaaVec
import Derived.ProofKit
import Derived.Lib.SmallJoins
import Derived.Deep.Matrix
import Derived.SizedLaws
import Derived.Test.YtdfanconjiiceaaFamL
namespace Go.Proofs.Ytdfanconjiiceaa
/- IntB -/
section
open Go.RowKit

/-- The numbers from k on. -/
def upFrom (k n : Nat) : List Int := (List.range n).map fun i => ((k + i : Nat) : Int)
theorem upFrom_length (k n : Nat) : (upFrom k n).length = n := by simp [upFrom]
theorem upFrom_at {k n j : Nat} (h : j < n) : (upFrom k n)[j]? = some ((k + j : Nat) : Int) := by simp [upFrom, h]

set_option maxHeartbeats 400000 in
theorem held_any (A : Option Addr) (c k n : Nat) (w : World) (h : Ints w A (upFrom k n)) (hn : n ≤ 1099511627776) (hk : k ≤ 1099511627776) :
    Calls Try.prog 46 #[.slice A n c, .int .i64 (k : Int)] w fun e w' => e = .returned (.int .i64 ((k + n : Nat) : Int)) ∧ w = w' := by
  have HS := Lib.hid h
  clear h
  go_enter Try.func46, Try.ntmps46
  go_wp2_with fail
  go_loop [1, 5] (fun u i => ∃ j : Nat, j ≤ n ∧ i = .int .i64 j ∧ u = .int .i64 ((k + j : Nat) : Int)) (fun _ i => n - (intOf i).toNat)
  case atStart => exact ⟨0, Nat.zero_le _, rfl, rfl⟩
  case round =>
    obtain ⟨j, hj, rfl, rfl⟩ := hrel
    by_cases hlt : j < n
    · obtain ⟨b, off, rfl, _, hc⟩ := HS.out (by rw [upFrom_length]; omega)
      have hcell := hc j _ (upFrom_at hlt)
      clear hc
      obtain ⟨z, hz⟩ : ∃ z : Nat, z = k + j := ⟨_, rfl⟩
      rw [← hz] at hcell
      have HZ := Lib.hid hz
      rw [← hz]
      have hz2 : z ≤ 2199023255552 := by omega
      clear hz
      go_wp2_with fail
      go_round
      case rel => exact ⟨j + 1, by omega, by go_num, by rw [HZ.out]; go_num⟩
      case measure => simp [intOf]; omega
    · have hjn : j = n := by omega
      have HJ := Lib.hid hjn
      clear hjn
      go_wp2_with fail
      go_ret
      exact ⟨by rw [HJ.out]; rfl, rfl⟩

/-- How markIntS ends: the row holds the numbers from k on. -/
def MarkPost (base k n : Nat) (A : Option Addr) (c : Nat) (w : World) (e : Ending) (w' : World) : Prop :=
  e = .returned (.int .i64 ((k + n : Nat) : Int)) ∧ w.grownBy w' (Value.slice A n c).ownBlock ∧ w'.ownsRow base 3 1 (.slice A n c) n ((upFrom k n).map (Value.int .i64))

set_option maxHeartbeats 400000 in
theorem mark_any (A : Option Addr) (base c k n : Nat) (xs : List Value) (w : World) (h : w.ownsRow base 3 1 (.slice A n c) n xs) (hn : n ≤ 1099511627776) (hk : k ≤ 1099511627776) :
    Calls Try.prog 27 #[.slice A n c, .int .i64 (k : Int)] w (MarkPost base k n A c w) := by
  have HO := Lib.hid h
  clear h
  go_enter Try.func27, Try.ntmps27
  go_wp2_with fail
  go_loopw [1, 5] (fun u i wr => ∃ (j : Nat) (ys : List Value), j ≤ n ∧ i = .int .i64 j ∧ u = .int .i64 ((k + j : Nat) : Int) ∧ Hid (wr.ownsRow base 3 1 (.slice A n c) n ys) ∧ Hid (∀ i, i < j → ys[i]? = some (.int .i64 ((k + i : Nat) : Int))) ∧ Hid (w.grownBy wr (Value.slice A n c).ownBlock)) (fun _ i _ => n - (intOf i).toNat)
  case atStart => exact ⟨0, xs, Nat.zero_le _, rfl, rfl, HO, Lib.hid (fun i hi => by omega), Lib.hid (gr_refl _ _)⟩
  case round =>
    obtain ⟨j, ys, hj, rfl, rfl, ho, hys, hgr⟩ := hrel
    by_cases hlt : j < n
    · obtain ⟨g, rfl⟩ : ∃ g, A = some ⟨g, 0, none⟩ := by
        rcases ho.out.2 with ⟨hv, hn0⟩ | ⟨g, cap, cur, hv, _⟩
        · omega
        · cases hv; exact ⟨g, rfl⟩
      have hyl : ys.length = n := by have := ho.out.1; omega
      have hcell : wr.cell? ⟨g, j, none⟩ = some ys[j] := (ho.out.cellAt j (by omega)).trans (List.getElem?_eq_getElem (by omega))
      have hfr := ho.out.frozenAt j
      generalize ys[j] = y0 at hcell
      obtain ⟨z, hz⟩ : ∃ z : Nat, z = k + j := ⟨_, rfl⟩
      have HZ := Lib.hid hz
      rw [← hz]
      have hz2 : z ≤ 2199023255552 := by omega
      have HYL := Lib.hid hyl
      have hst := ho.out.stored j (.int .i64 (z : Int))
      have HST := Lib.hid hst
      clear hz hyl hst
      go_wp2_with fail
      go_roundw
      case rel =>
        refine ⟨j + 1, ys.set j (.int .i64 (z : Int)), by omega, by go_num, by rw [HZ.out]; go_num, Lib.hid HST.out.1, Lib.hid (fun i hi => ?_), Lib.hid (hgr.out.trans HST.out.2)⟩
        rw [List.getElem?_set]
        by_cases e : j = i
        · subst e
          rw [if_pos rfl, if_pos (by have := HYL.out; omega), HZ.out]
        · rw [if_neg e]
          exact hys.out i (by omega)
      case measure => simp [intOf]; omega
    · have hjn : j = n := by omega
      have HJ := Lib.hid hjn
      clear hjn
      go_wp2_with fail
      go_ret
      refine ⟨by rw [HJ.out]; rfl, hgr.out, ?_⟩
      have e : ys = (upFrom k n).map (Value.int .i64) := by
        refine List.ext_getElem? fun i => ?_
        have hyl : ys.length = n := by have := ho.out.1; omega
        rcases Nat.lt_or_ge i n with h | h
        · rw [hys.out i (by rw [HJ.out]; exact h), List.getElem?_map, upFrom_at h]; rfl
        · rw [List.getElem?_eq_none (by omega), List.getElem?_eq_none (by rw [List.length_map, upFrom_length]; omega)]
      rw [← e]
      exact ho.out
end

/- Mark -/
section
open Go.RowKit

/-- Numbers from one on, list by list. -/
def numL : Nat → List (List Int) → List (List Int)
  | _, [] => []
  | k, L :: LL => upFrom k L.length :: numL (k + L.length) LL
theorem numL_len : ∀ (LL : List (List Int)) (k : Nat), (numL k LL).length = LL.length
  | [], _ => rfl
  | L :: LL, k => by simp [numL, numL_len LL]
theorem numL_at : ∀ (LL : List (List Int)) (k j : Nat) (L : List Int), LL[j]? = some L → (numL k LL)[j]? = some (upFrom (k + totL (LL.take j)) L.length)
  | [], _, _, _, h => by simp at h
  | M :: LL, k, 0, L, h => by
    simp only [List.getElem?_cons_zero, Option.some.injEq] at h
    subst h
    simp [numL, totL]
  | M :: LL, k, j + 1, L, h => by
    have := numL_at LL (k + M.length) j L (by simpa using h)
    simp only [numL, List.getElem?_cons_succ, List.take_succ_cons, totL]
    rw [this, Nat.add_assoc]
theorem totL_take_le (LL : List (List Int)) (j : Nat) : totL (LL.take j) ≤ totL LL := by
  have e : LL.take j ++ LL.drop j = LL := List.take_append_drop j LL
  have := totL_append (LL.take j) (LL.drop j)
  rw [e] at this
  omega

theorem markz (A : Option Addr) (c k : Nat) (w : World) : Calls Try.prog 27 #[.slice A 0 c, .int .i64 (k : Int)] w fun e w' => e = .returned (.int .i64 (k : Int)) ∧ w = w' := by
  go_enter Try.func27, Try.ntmps27
  go_wp2_with fail
  go_loop [1, 5] (fun u i => u = .int .i64 (k : Int) ∧ i = .int .i64 0) (fun _ _ => 0)
  case atStart => exact ⟨rfl, rfl⟩
  case round =>
    obtain ⟨rfl, rfl⟩ := hrel
    go_wp2_with fail
    go_ret
    exact ⟨rfl, rfl⟩

/-- A row of a family, marked. -/
theorem mark_row (v : Value) (base k : Nat) (L : List Int) (w : World) (h : OwnR w base v L) (hn : L.length ≤ 1099511627776) (hk : k ≤ 1099511627776) :
    Calls Try.prog 27 #[v, .int .i64 (k : Int)] w fun e w' => e = .returned (.int .i64 ((k + L.length : Nat) : Int)) ∧ w.grownBy w' (if 0 < L.length then v.ownBlock else none) ∧ OwnR w' base v (upFrom k L.length) := by
  obtain ⟨A, c, rfl, hc, ho⟩ := id h
  by_cases h0 : 0 < L.length
  · refine (mark_any A base c k L.length _ w (ho h0) hn (by omega)).mono ?_
    rintro e w' ⟨rfl, hg, ho'⟩
    rw [if_pos h0]
    exact ⟨rfl, hg, A, c, by rw [upFrom_length], by rw [upFrom_length]; exact hc, fun _ => by rw [upFrom_length]; exact ho'⟩
  · have hz : L.length = 0 := by omega
    rw [hz] at hc ⊢
    refine (markz A c k w).mono ?_
    rintro e w' ⟨rfl, rfl⟩
    exact ⟨rfl, gr_refl _ _, A, c, by rw [upFrom_length], by rw [upFrom_length]; exact hc, fun h => by rw [upFrom_length] at h; omega⟩

theorem Fam.mark {w w' : World} {base n i : Nat} {vs : List Value} {LL : List (List Int)} {v : Value} {L L' : List Int} (h : Fam w base n vs LL) (hi : i < n) (hv : vs[i]? = some v) (hL : LL[i]? = some L) (hg : w.grownBy w' (if 0 < L.length then v.ownBlock else none)) (ho : OwnR w' base v L') (hlen : L'.length = L.length) : Fam w' base n vs (LL.set i L') := by
  have hil : i < LL.length := (List.getElem?_eq_some_iff.1 hL).1
  refine ⟨fun j M hj hM => ?_, fun j j' u u' M M' g hj hj' hne hu hu' hM hM' hl hl' hb => ?_⟩
  · rw [List.getElem?_set] at hM
    by_cases e : i = j
    · subst e
      rw [if_pos rfl, if_pos hil] at hM
      cases hM
      exact ⟨v, hv, ho⟩
    · rw [if_neg e] at hM
      obtain ⟨u, hu, h1⟩ := h.1 j M hj hM
      refine ⟨u, hu, h1.grown hg (fun g hl hb e2 => ?_)⟩
      by_cases h0 : 0 < L.length
      · rw [if_pos h0] at e2
        exact h.2 i j v u L M g hi hj e hv hu hL hM h0 hl e2.symm hb
      · rw [if_neg h0] at e2
        cases e2
  · have key : ∀ (a : Nat) (X : List Int), (LL.set i L')[a]? = some X → ∃ Y, LL[a]? = some Y ∧ Y.length = X.length := fun a X hX => by
      rw [List.getElem?_set] at hX
      by_cases e : i = a
      · subst e
        rw [if_pos rfl, if_pos hil] at hX
        cases hX
        exact ⟨L, hL, hlen.symm⟩
      · rw [if_neg e] at hX
        exact ⟨X, hX, rfl⟩
    obtain ⟨Y, hY, hYl⟩ := key j M hM
    obtain ⟨Y', hY', hYl'⟩ := key j' M' hM'
    exact h.2 j j' u u' Y Y' g hj hj' hne hu hu' hY hY' (by omega) (by omega) hb

/-- A family of rows behind a row of slices, and the numbers' row; the blocks of the first are the rows' own. -/
structure Marked (w : World) (base : Nat) (A : Option Addr) (c : Nat) (vs : List Value) (d : Value) (n : Nat) (FF : List (List Int)) : Prop where
  own : w.ownsRow base 23 1 (.slice A n c) n vs
  fam : Fam w base (n + 1) (vs ++ [d]) FF
  len : FF.length = n + 1

theorem Marked.step {w w' : World} {base n i c : Nat} {A : Option Addr} {vs : List Value} {d v : Value} {FF : List (List Int)} {L L' : List Int} (h : Marked w base A c vs d n FF) (hi : i < n + 1) (hv : (vs ++ [d])[i]? = some v) (hL : FF[i]? = some L) (hg : w.grownBy w' (if 0 < L.length then v.ownBlock else none)) (ho : OwnR w' base v L') (hlen : L'.length = L.length) : Marked w' base A c vs d n (FF.set i L') := by
  refine ⟨?_, h.fam.mark hi hv hL hg ho hlen, by rw [List.length_set]; exact h.len⟩
  refine own_keep h.own (fun g hb => hg.block g (h.own.lt g hb).2 (fun e => ?_))
  by_cases h0 : 0 < L.length
  · rw [if_pos h0] at e
    obtain ⟨u, hu, A', c', rfl, _, h1⟩ := h.fam.1 i L hi hL
    rw [hv] at hu
    cases hu
    exact absurd (own_typ h.own (h1 h0) hb e.symm) (by decide)
  · rw [if_neg h0] at e
    cases e

theorem int_kept {w w' : World} {base g0 : Nat} {v : Value} {L : List Int} {cs : Array Value} {t : TypeId} {m : Nat × Nat} (ht : t ≠ 3) (hp : w.heap[g0]? = some (.cells cs t m)) (h : OwnR w base v L) (hg : w.grownBy w' (if 0 < L.length then v.ownBlock else none)) : w'.heap[g0]? = some (.cells cs t m) :=
  (hg.block g0 (Array.getElem?_eq_some_iff.1 hp).1 (fun e => by
    by_cases h0 : 0 < L.length
    · rw [if_pos h0] at e
      obtain ⟨A, c, rfl, _, ho⟩ := h
      rcases (ho h0).2 with ⟨hv, _⟩ | ⟨b, cap, cur, hv, _, hb, _⟩
      · rw [hv] at e; cases e
      · rw [hv] at e
        simp only [Value.ownBlock, Option.some.injEq] at e
        subst e
        rw [hb] at hp
        cases hp
        exact ht rfl
    · rw [if_neg h0] at e
      cases e)).trans hp
/-- Blocks of other types than ints lie as they lay. -/
def Others (w w' : World) : Prop := ∀ (g0 : Nat) (cs : Array Value) (t : TypeId) (m : Nat × Nat), t ≠ 3 → w.heap[g0]? = some (.cells cs t m) → w'.heap[g0]? = some (.cells cs t m)
theorem set_num {LL : List (List Int)} {k j : Nat} {D L : List Int} (hL : LL[j]? = some L) : ((numL k LL).take j ++ LL.drop j ++ [D]).set j (upFrom (k + totL (LL.take j)) L.length) = (numL k LL).take (j + 1) ++ LL.drop (j + 1) ++ [D] := by
  have hj : j < LL.length := (List.getElem?_eq_some_iff.1 hL).1
  have h1 : ((numL k LL).take j).length = j := by rw [List.length_take, numL_len]; omega
  rw [drop_at hL, List.append_assoc, List.set_append_right _ _ (by omega), h1, Nat.sub_self, List.take_add_one, numL_at LL k j L hL]
  simp

set_option maxHeartbeats 1000000 in
theorem marks_any (A : Option Addr) (base c k n : Nat) (vs : List Value) (d : Value) (LL : List (List Int)) (D : List Int) (w : World) (h : Marked w base A c vs d n (LL ++ [D])) (hn : n ≤ 1099511627776) (hk : k + totL LL ≤ 1099511627776) :
    Calls Try.prog 44 #[.slice A n c, .int .i64 (k : Int)] w fun e w' => e = .returned (.int .i64 ((k + totL LL : Nat) : Int)) ∧ Marked w' base A c vs d n (numL k LL ++ [D]) ∧ (∀ w0 : World, w0.grownBy w none → w0.heap.size ≤ base → w0.grownBy w' none) ∧ Others w w' := by
  have hll : LL.length = n := by have := h.len; rw [List.length_append] at this; simp at this; omega
  have HLL := Lib.hid hll
  have hvl : vs.length = n := by have := h.own.1; omega
  have HVL := Lib.hid hvl
  have HM := Lib.hid h
  have HK := Lib.hid hk
  clear h hll hvl hk
  go_enter Try.func44, Try.ntmps44
  go_wp2_with fail
  go_loopw [1, 5] (fun u i wr => ∃ (j x : Nat), j ≤ n ∧ i = .int .i64 j ∧ u = .int .i64 x ∧ Hid (x = k + totL (LL.take j)) ∧ Hid (Marked wr base A c vs d n ((numL k LL).take j ++ LL.drop j ++ [D])) ∧ Hid (∀ w0 : World, w0.grownBy w none → w0.heap.size ≤ base → w0.grownBy wr none) ∧ Hid (Others w wr)) (fun _ i _ => n - (intOf i).toNat)
  case atStart => exact ⟨0, k, Nat.zero_le _, rfl, rfl, Lib.hid (by simp [totL]), Lib.hid (by simpa using HM.out), Lib.hid (fun _ h _ => h), Lib.hid (fun _ _ _ _ _ h => h)⟩
  case round =>
    obtain ⟨j, x, hj, rfl, rfl, hx, hm, hgr, hpr⟩ := hrel
    by_cases hlt : j < n
    · obtain ⟨L, hL⟩ : ∃ L, LL[j]? = some L := ⟨_, List.getElem?_eq_getElem (by have := HLL.out; omega)⟩
      have hFL : ((numL k LL).take j ++ LL.drop j ++ [D])[j]? = some L := by
        have h1 : ((numL k LL).take j).length = j := by rw [List.length_take, numL_len]; have := HLL.out; omega
        rw [List.append_assoc, List.getElem?_append_right (by omega), h1, Nat.sub_self, drop_at hL]
        rfl
      obtain ⟨v, hv, how⟩ := hm.out.fam.1 j L (by omega) hFL
      have hvs : vs[j]? = some v := by rw [List.getElem?_append_left (by have := HVL.out; omega)] at hv; exact hv
      obtain ⟨g, rfl⟩ : ∃ g, A = some ⟨g, 0, none⟩ := by
        rcases hm.out.own.2 with ⟨hv, hn0⟩ | ⟨g, cap, cur, hv, _⟩
        · omega
        · cases hv; exact ⟨g, rfl⟩
      have hcell := (hm.out.own.cellAt j (by omega)).trans hvs
      have hll := totL_at hL
      have hst := totL_step hL
      have htl := totL_take_le LL (j + 1)
      have HC := Lib.hid (mark_row v base x L wr how (by have := HK.out; omega) (by have := HK.out; have := hx.out; omega))
      have HST := Lib.hid (fun (w' : World) (hg : wr.grownBy w' (if 0 < L.length then v.ownBlock else none)) (ho : OwnR w' base v (upFrom x L.length)) => hm.out.step (by omega) hv hFL hg ho (upFrom_length _ _))
      have HOW := Lib.hid how
      have HSN := Lib.hid (set_num (D := D) (k := k) hL)
      have HTS := Lib.hid hst
      have HTL := Lib.hid htl
      obtain ⟨A8, c8, rfl, _⟩ := how
      obtain ⟨q, hq⟩ : ∃ q, L.length = q := ⟨_, rfl⟩
      have HQ := Lib.hid hq
      rw [hq] at hcell HC
      have hb1 : x + q ≤ 1099511627776 := by have := HK.out; have := hx.out; omega
      obtain ⟨y, hy⟩ : ∃ y, x + q = y := ⟨_, rfl⟩
      rw [hy] at HC hb1
      have HY := Lib.hid hy
      clear hL hFL hv hvs hll hst htl hq hy
      go_wp2_with fail
      refine HC.out.mono ?_
      rintro e w5 ⟨rfl, hg5, ho5⟩
      have hm5 := HST.out w5 (by rw [HQ.out]; exact hg5) (by rw [HQ.out]; exact ho5)
      rw [HQ.out] at hm5
      have hs5 := HSN.out
      rw [HQ.out, ← hx.out] at hs5
      rw [hs5] at hm5
      have HM5 := Lib.hid hm5
      have HG5 := Lib.hid (fun (w0 : World) (h1 : w0.grownBy w none) (h2 : w0.heap.size ≤ base) => gr_ownF (hgr.out w0 h1 h2) hg5 (fun b hb => by
        by_cases h0 : 0 < L.length
        · rw [if_pos (by have := HQ.out; omega)] at hb
          exact Nat.le_trans h2 (HOW.out.lt h0 b (by rw [HQ.out]; exact hb)).1
        · rw [if_neg (by have := HQ.out; omega)] at hb
          cases hb))
      have HPR := Lib.hid (show Others w w5 from fun g0 cs t m ht h1 => int_kept ht (hpr.out g0 cs t m ht h1) HOW.out (by rw [HQ.out]; exact hg5))
      clear hg5 ho5 hm5 hs5
      go_wp2_with fail
      go_roundw
      case rel => exact ⟨j + 1, y, by omega, by go_num, rfl, Lib.hid (by have := HTS.out; have := hx.out; have := HQ.out; have := HY.out; omega), HM5, HG5, HPR⟩
      case measure => simp [intOf]; omega
    · have hjn : j = n := by omega
      have HJ := Lib.hid hjn
      clear hjn
      go_wp2_with fail
      go_ret
      have e1 : LL.take j = LL := List.take_of_length_le (by have := HLL.out; have := HJ.out; omega)
      have h1 := hx.out
      have h2 := hm.out
      rw [e1] at h1
      rw [List.take_of_length_le (by rw [numL_len]; have := HLL.out; have := HJ.out; omega), List.drop_of_length_le (by have := HLL.out; have := HJ.out; omega), List.append_nil] at h2
      exact ⟨by first | (rw [← h1]; rfl) | (rw [show ((k : Int) + ((totL LL : Nat) : Int)) = (x : Int) from by omega]; rfl), h2, hgr.out, hpr.out⟩

set_option maxHeartbeats 1000000 in
theorem helds_any (A : Option Addr) (c k : Nat) (LL : List (List Int)) (w : World) (h : Rws w A (numL k LL)) (hn : LL.length ≤ 1099511627776) (hk : k + totL LL ≤ 1099511627776) :
    Calls Try.prog 45 #[.slice A LL.length c, .int .i64 (k : Int)] w fun e w' => e = .returned (.int .i64 ((k + totL LL : Nat) : Int)) ∧ w = w' := by
  obtain ⟨n, hnn⟩ : ∃ n, LL.length = n := ⟨_, rfl⟩
  have HN := Lib.hid hnn
  rw [hnn] at hn ⊢
  have HR := Lib.hid h
  have HK := Lib.hid hk
  clear h hnn hk
  go_enter Try.func45, Try.ntmps45
  go_wp2_with fail
  go_loop [1, 5] (fun u i => ∃ (j x : Nat), j ≤ n ∧ i = .int .i64 j ∧ u = .int .i64 x ∧ Hid (x = k + totL (LL.take j))) (fun _ i => n - (intOf i).toNat)
  case atStart => exact ⟨0, k, Nat.zero_le _, rfl, rfl, Lib.hid (by simp [totL])⟩
  case round =>
    obtain ⟨j, x, hj, rfl, rfl, hx⟩ := hrel
    by_cases hlt : j < n
    · obtain ⟨L, hL⟩ : ∃ L, LL[j]? = some L := ⟨_, List.getElem?_eq_getElem (by have := HN.out; omega)⟩
      obtain ⟨b, off, B, d, rfl, hcell, _, hi⟩ := HR.out.at_ (numL_at LL k j L hL)
      rw [← hx.out] at hi
      rw [upFrom_length] at hcell
      have hll := totL_at hL
      have htl := totL_take_le LL (j + 1)
      have HTS := Lib.hid (totL_step hL)
      obtain ⟨q, hq⟩ : ∃ q, L.length = q := ⟨_, rfl⟩
      have HQ := Lib.hid hq
      have hb1 : x + q ≤ 1099511627776 := by have := HK.out; have := hx.out; have := HTS.out; omega
      rw [hq] at hcell hi
      have HC := Lib.hid (held_any B d x q w hi (by omega) (by omega))
      obtain ⟨y, hy⟩ : ∃ y, x + q = y := ⟨_, rfl⟩
      rw [hy] at HC hb1
      have HY := Lib.hid hy
      clear hL hi hll htl hq hy
      go_wp2_with fail
      refine HC.out.mono ?_
      rintro e w5 ⟨rfl, rfl⟩
      go_wp2_with fail
      go_round
      case rel => exact ⟨j + 1, y, by omega, by go_num, rfl, Lib.hid (by have := HTS.out; have := hx.out; have := HQ.out; have := HY.out; omega)⟩
      case measure => simp [intOf]; omega
    · have hjn : j = n := by omega
      have HJ := Lib.hid hjn
      clear hjn
      go_wp2_with fail
      go_ret
      have e1 : LL.take j = LL := List.take_of_length_le (by have := HN.out; have := HJ.out; omega)
      have h1 := hx.out
      rw [e1] at h1
      exact ⟨by first | (rw [← h1]; rfl) | (rw [show ((k : Int) + ((totL LL : Nat) : Int)) = (x : Int) from by omega]; rfl), rfl⟩

/-- A layout whose numbers were all turned to those from one on. -/
def numLyt (w : World) (v : Value) (k : Nat) (LL : List (List Int)) (m : Nat) : Prop := Lyt w v (numL k LL) (upFrom (k + totL LL) m)

set_option maxHeartbeats 1000000 in
theorem marklT_any (v : Value) (base : Nat) (LL : List (List Int)) (D : List Int) (w : World) (h : OwnLyt w base v LL D) (hn : LL.length ≤ 1099511627776) (hk : 1 + totL LL + D.length ≤ 1099511627776) :
    Calls Try.prog 10 #[v, .int .i64 1] w fun e w' => e = .returned (.int .i64 ((1 + totL LL + D.length : Nat) : Int)) ∧ numLyt w' v 1 LL D.length ∧ (∀ w0 : World, w0.grownBy w none → w0.heap.size ≤ base → w0.grownBy w' none) ∧ Others w w' := by
  obtain ⟨A, c, d, vs, rfl, hc, ho, hf⟩ := h
  obtain ⟨n, hnn⟩ : ∃ n, LL.length = n := ⟨_, rfl⟩
  rw [hnn] at hc ho hf hn
  have hMk : Marked w base A c vs d n (LL ++ [D]) := ⟨ho, hf, by simp [hnn]⟩
  have hvn : vs.length = n := by have := ho.1; omega
  have hdv : (vs ++ [d])[n]? = some d := by rw [← hvn]; simp
  have hdL : (LL ++ [D])[n]? = some D := by rw [← hnn]; simp
  obtain ⟨d', hd', hod⟩ := hf.1 n D (by omega) hdL
  rw [hdv] at hd'
  cases hd'
  obtain ⟨B, e, rfl, hec, _⟩ := hod
  obtain ⟨m, hm⟩ : ∃ m, D.length = m := ⟨_, rfl⟩
  have HM := Lib.hid hm
  have HNN := Lib.hid hnn
  obtain ⟨x, hx⟩ : ∃ x, 1 + totL LL = x := ⟨_, rfl⟩
  have HX := Lib.hid hx
  rw [hm] at hMk hk hdv
  rw [hnn, hm]
  have hMk2 : Marked (w.alloc (.cells #[.slice A n c, .slice B m e] 25)) base A c vs (.slice B m e) n (LL ++ [D]) := by
    have hg := World.grownBy_alloc w (.cells #[.slice A n c, .slice B m e] 25) none
    exact ⟨hMk.own.alloc _, hMk.fam.grown hg, hMk.len⟩
  have HP := Lib.hid (Pr.new w 25 (.slice A n c) (.slice B m e))
  have HS := Lib.hid (marks_any A base c 1 n vs (.slice B m e) LL D _ hMk2 hn (by omega))
  have hx1 : x ≤ 1099511627776 := by omega
  rw [hx] at HS
  have HC := Lib.hid hc
  have HEC := Lib.hid hec
  have HDV := Lib.hid hdv
  have HVN := Lib.hid hvn
  obtain ⟨y, hy⟩ : ∃ y, 1 + totL LL + m = y := ⟨_, rfl⟩
  have HY := Lib.hid hy
  have hy1 : y ≤ 1099511627776 := by omega
  have hxy : x + m = y := by omega
  have HXY := Lib.hid hxy
  rw [hy]
  have HKM := Lib.hid (show m ≤ 1099511627776 by omega)
  clear ho hf hMk hMk2 hdv hdL hec hm hnn hx hc hvn hk hy hxy
  go_enter Try.func10, Try.ntmps10
  go_wp2_with fail
  refine HS.out.mono ?_
  rintro ee w1 ⟨rfl, hm1, hg1, hp1⟩
  have hP1 : Pr w1 w.heap.size 25 (.slice A n c) (.slice B m e) := hp1 _ _ _ _ (by decide) HP.out
  have p0 := hP1.c0
  have p1 := hP1.c1
  have HM1 := Lib.hid hm1
  have HG1 := Lib.hid hg1
  have HPP := Lib.hid (show Others w w1 from fun g0 cs t m ht h => hp1 g0 cs t m ht ((World.grownBy_alloc w _ none).block g0 (Array.getElem?_eq_some_iff.1 h).1 (by simp) |>.trans h))
  obtain ⟨d2, hd2, hod2⟩ := hm1.fam.1 n D (by omega) (by have := numL_len LL 1; have := HNN.out; rw [List.getElem?_append_right (by omega)]; simp [numL_len, HNN.out])
  rw [HDV.out] at hd2
  cases hd2
  have HOD := Lib.hid hod2
  have HR := Lib.hid (mark_row (.slice B m e) base x D w1 hod2 (by rw [HM.out]; exact HKM.out) hx1)
  rw [HM.out, HXY.out] at HR
  clear hm1 hg1 hp1 hP1 hod2
  go_wp2_with fail
  refine HR.out.mono ?_
  rintro ee w2 ⟨rfl, hg2, ho2⟩
  have hfl : (numL 1 LL ++ [D])[n]? = some D := by rw [List.getElem?_append_right (by rw [numL_len, HNN.out]; omega)]; simp [numL_len, HNN.out]
  have hm2 := HM1.out.step (w' := w2) (by omega) HDV.out hfl (by rw [HM.out]; exact hg2) ho2 (by rw [upFrom_length, HM.out])
  have e1 : (numL 1 LL ++ [D]).set n (upFrom x m) = numL 1 LL ++ [upFrom x m] := by
    rw [List.set_append_right _ _ (by rw [numL_len, HNN.out]; omega), numL_len, HNN.out, Nat.sub_self]
    rfl
  rw [e1] at hm2
  have HM2 := Lib.hid hm2
  have HG2 := Lib.hid (fun (w0 : World) (h1 : w0.grownBy w none) (h2 : w0.heap.size ≤ base) => gr_ownF (HG1.out w0 (h1.trans (World.grownBy_alloc _ _ _)) h2) hg2 (fun b hb => by
    by_cases h0 : 0 < m
    · rw [if_pos h0] at hb
      obtain ⟨d3, hd3, hod3⟩ := HM1.out.fam.1 n D (by omega) hfl
      rw [HDV.out] at hd3
      cases hd3
      exact Nat.le_trans h2 (hod3.lt (by rw [HM.out]; exact h0) b hb).1
    · rw [if_neg h0] at hb
      cases hb))
  have HPQ := Lib.hid (show Others w w2 from fun g0 cs t m ht h => int_kept ht (HPP.out g0 cs t m ht h) HOD.out (by rw [HM.out]; exact hg2))
  clear hg2 ho2 hm2
  go_wp2_with fail
  go_ret
  refine ⟨rfl, ?_, HG2.out, HPQ.out⟩
  have hf2 := HM2.out.fam
  have ho2 := HM2.out.own
  obtain ⟨d3, hd3, hod3⟩ := hf2.1 n (upFrom x m) (by omega) (by rw [List.getElem?_append_right (by rw [numL_len, HNN.out]; omega)]; simp [numL_len, HNN.out])
  rw [HDV.out] at hd3
  cases hd3
  obtain ⟨hm3, hec3, hi3⟩ := hod3.ints
  refine ⟨A, c, B, e, by rw [numL_len, upFrom_length, HNN.out], by rw [numL_len, HNN.out]; exact HC.out, by rw [upFrom_length, ← HM.out]; exact HEC.out, rws_own (vs := vs) (by rw [numL_len, HNN.out]; exact ho2) (fun i L hL => ?_), by rw [HX.out]; exact hi3⟩
  have hi := (List.getElem?_eq_some_iff.1 hL).1
  rw [numL_len] at hi
  obtain ⟨v, hv, hov⟩ := hf2.1 i L (by have := HNN.out; omega) (by rw [List.getElem?_append_left (by rw [numL_len]; exact hi)]; exact hL)
  rw [List.getElem?_append_left (by have := HVN.out; have := HNN.out; omega)] at hv
  exact ⟨v, hv, hov⟩

theorem markl_any (v : Value) (base : Nat) (LL : List (List Int)) (D : List Int) (w : World) (h : OwnLyt w base v LL D) (hn : LL.length ≤ 1099511627776) (hk : 1 + totL LL + D.length ≤ 1099511627776) :
    Calls Try.prog 10 #[v, .int .i64 1] w fun e w' => e = .returned (.int .i64 ((1 + totL LL + D.length : Nat) : Int)) ∧ numLyt w' v 1 LL D.length ∧ (∀ w0 : World, w0.grownBy w none → w0.heap.size ≤ base → w0.grownBy w' none) ∧ (∀ (g0 : Nat) (x y : Value), Pr w g0 25 x y → Pr w' g0 25 x y) :=
  (marklT_any v base LL D w h hn hk).mono (fun _ _ ⟨h1, h2, h3, h4⟩ => ⟨h1, h2, h3, fun g0 x y hp => h4 g0 _ _ _ (by decide) hp⟩)
end

/- MarkH -/
section
open Go.RowKit

set_option maxHeartbeats 1000000 in
theorem heldl_any (v : Value) (k : Nat) (LL : List (List Int)) (m : Nat) (w : World) (h : numLyt w v k LL m) (hn : LL.length ≤ 1099511627776) (hk : k + totL LL + m ≤ 1099511627776) :
    Calls Try.prog 11 #[v, .int .i64 (k : Int)] w fun e w' => e = .returned (.int .i64 ((k + totL LL + m : Nat) : Int)) ∧ w.grownBy w' none := by
  obtain ⟨A, c, B, d, rfl, _, _, hr, hi⟩ := h
  rw [numL_len, upFrom_length]
  have HS := Lib.hid (fun w h => helds_any A c k LL w h hn (by omega))
  obtain ⟨x, hx⟩ : ∃ x, k + totL LL = x := ⟨_, rfl⟩
  rw [hx] at hi hk HS
  rw [hx]
  have HI := Lib.hid (fun (w : World) (h : Ints w B (upFrom x m)) => held_any B d x m w h (by omega) (by omega))
  have HR1 := Lib.hid hr
  have HI1 := Lib.hid hi
  obtain ⟨y, hy⟩ : ∃ y, x + m = y := ⟨_, rfl⟩
  rw [hy] at hk HI
  rw [hy]
  obtain ⟨n, hnn⟩ : ∃ n, LL.length = n := ⟨_, rfl⟩
  rw [hnn] at HS ⊢
  have hx1 : x ≤ 1099511627776 := by omega
  clear hr hi hx hy hnn hn
  go_enter Try.func11, Try.ntmps11
  go_wp2_with fail
  refine (HS.out _ (HR1.out.grown (World.grownBy_alloc _ _ _))).mono ?_
  rintro e w1 ⟨rfl, rfl⟩
  go_wp2_with fail
  refine (HI.out _ (HI1.out.grown (World.grownBy_alloc _ _ none) (by simp))).mono ?_
  rintro e w2 ⟨rfl, rfl⟩
  go_wp2_with fail
  go_ret
  exact ⟨rfl, World.grownBy_alloc _ _ _⟩
end

/- VMark -/
section
open Go.RowKit

/-- A vector whose numbers were all turned to those from one on. -/
def numVct (w : World) (v : Value) (n : Int) (k : Nat) (LL : List (List Int)) (m : Nat) : Prop := Vct w v n (numL k LL) (upFrom (k + totL LL) m)

set_option maxHeartbeats 1000000 in
theorem markv_any (v : Value) (n : Int) (base : Nat) (LL : List (List Int)) (D : List Int) (w : World) (h : OwnVct w base v n LL D) (hn : LL.length ≤ 1099511627776) (hk : 1 + totL LL + D.length ≤ 1099511627776) :
    Calls Try.prog 19 #[v, .int .i64 1] w fun e w' => e = .returned (.int .i64 ((1 + totL LL + D.length : Nat) : Int)) ∧ numVct w' v n 1 LL D.length ∧ (∀ w0 : World, w0.grownBy w none → w0.heap.size ≤ base → w0.grownBy w' none) ∧ Others w w' := by
  obtain ⟨x, y, rfl, hl⟩ := h
  have hg0 := World.grownBy_alloc w (.cells #[.int .i64 n, x, y] 34) none
  have hlA : OwnLyt (w.alloc (.cells #[.int .i64 n, x, y] 34)) base (.agg #[x, y]) LL D := hl.keep (fun g _ hg => hg0.block g hg (by simp))
  have HM := Lib.hid (marklT_any (.agg #[x, y]) base LL D _ hlA hn hk)
  have HG0 := Lib.hid hg0
  obtain ⟨A, c, B, d, he, _⟩ := id hl.lyt
  cases he
  obtain ⟨na, hna⟩ : ∃ na, LL.length = na := ⟨_, rfl⟩
  obtain ⟨nd', hnd⟩ : ∃ nd', D.length = nd' := ⟨_, rfl⟩
  obtain ⟨q, hq⟩ : ∃ q, 1 + totL LL + nd' = q := ⟨_, rfl⟩
  rw [hna, hnd, hq] at HM
  rw [hna, hnd] at HG0
  rw [hna, hnd, hq]
  clear hl hlA hg0 hn hk hna hnd hq
  go_enter Try.func19, Try.ntmps19
  go_wp2_with fail
  refine HM.out.mono ?_
  rintro e w1 ⟨rfl, hn1, hg1, ho1⟩
  have HN1 := Lib.hid hn1
  have HG1 := Lib.hid hg1
  have HO1 := Lib.hid ho1
  clear hn1 hg1 ho1
  go_wp2_with fail
  go_ret
  refine ⟨rfl, ?_, fun w0 h0 hb => HG1.out w0 (h0.trans HG0.out) hb, fun g0 cs t m ht hc => HO1.out g0 cs t m ht ((HG0.out.block g0 (Array.getElem?_eq_some_iff.1 hc).1 (by simp)).trans hc)⟩
  obtain ⟨A2, c2, B2, d2, he2, h1, h2, h3, h4⟩ := HN1.out
  simp only [Value.agg.injEq, Array.mk.injEq, List.cons.injEq, and_true] at he2
  obtain ⟨e1, e2⟩ := he2
  exact ⟨A2, c2, B2, d2, by rw [e1, e2], h1, h2, h3, h4⟩

set_option maxHeartbeats 1000000 in
theorem heldv_any (v : Value) (n : Int) (k : Nat) (LL : List (List Int)) (m : Nat) (w : World) (h : numVct w v n k LL m) (hn : LL.length ≤ 1099511627776) (hk : k + totL LL + m ≤ 1099511627776) :
    Calls Try.prog 20 #[v, .int .i64 (k : Int)] w fun e w' => e = .returned (.int .i64 ((k + totL LL + m : Nat) : Int)) ∧ w.grownBy w' none := by
  obtain ⟨x, y, rfl, hl⟩ := Vct.lyt h
  have hg0 := World.grownBy_alloc w (.cells #[.int .i64 n, x, y] 34) none
  have HM := Lib.hid (heldl_any (.agg #[x, y]) k LL m _ (Lyt.grown hl hg0) hn hk)
  have HG0 := Lib.hid hg0
  obtain ⟨A, c, B, d, he, _⟩ := id hl
  cases he
  obtain ⟨na, hna⟩ : ∃ na, (numL k LL).length = na := ⟨_, rfl⟩
  obtain ⟨nd', hnd⟩ : ∃ nd', (upFrom (k + totL LL) m).length = nd' := ⟨_, rfl⟩
  obtain ⟨q, hq⟩ : ∃ q, k + totL LL + m = q := ⟨_, rfl⟩
  rw [hq] at hk
  rw [hna, hnd, hq] at HM
  rw [hna, hnd] at HG0
  rw [hna, hnd, hq]
  clear hl h hg0 hn hna hnd hq
  go_enter Try.func20, Try.ntmps20
  go_wp2_with fail
  refine HM.out.mono ?_
  rintro e w1 ⟨rfl, hg1⟩
  have HG1 := Lib.hid (HG0.out.trans hg1)
  clear hg1
  have hqn : ¬ ((q : Int) < 0) := by omega
  go_wp2_with fail
  go_ret
  exact ⟨rfl, HG1.out⟩
end

/- MarkA -/
section
open Go.RowKit

/-- Only blocks between two marks are written. -/
structure Btw (lo hi : Nat) (w w' : World) : Prop where
  os : w'.os = w.os
  tape : w'.tape = w.tape
  output : w'.output = w.output
  size : w.heap.size ≤ w'.heap.size
  block : ∀ k, k < lo ∨ hi ≤ k → k < w.heap.size → w'.heap[k]? = w.heap[k]?
theorem Btw.refl (lo hi : Nat) (w : World) : Btw lo hi w w := ⟨rfl, rfl, rfl, Nat.le_refl _, fun _ _ _ => rfl⟩
theorem Btw.trans {lo hi : Nat} {w w1 w2 : World} (h : Btw lo hi w w1) (h2 : Btw lo hi w1 w2) : Btw lo hi w w2 :=
  ⟨h2.os.trans h.os, h2.tape.trans h.tape, h2.output.trans h.output, Nat.le_trans h.size h2.size, fun k hk hl => (h2.block k hk (Nat.lt_of_lt_of_le hl h.size)).trans (h.block k hk hl)⟩
theorem Btw.row {lo hi : Nat} {w w1 w2 : World} {row : Option Nat} (h : Btw lo hi w w1) (hg : w1.grownBy w2 row) (hr : ∀ b, row = some b → lo ≤ b ∧ b < hi) : Btw lo hi w w2 :=
  h.trans ⟨hg.os, hg.tape, hg.output, hg.size, fun k hk hl => hg.block k hl (fun e => by have := hr k e.symm; omega)⟩
theorem Btw.gr {lo hi : Nat} {w0 w w' : World} (h0 : w0.grownBy w none) (h : Btw lo hi w w') (hb : w0.heap.size ≤ lo) : w0.grownBy w' none :=
  ⟨h.os.trans h0.os, h.tape.trans h0.tape, h.output.trans h0.output, Nat.le_trans h0.size h.size, fun k hk _ => (h.block k (by omega) (Nat.lt_of_lt_of_le hk h0.size)).trans (h0.block k hk (by simp))⟩

set_option maxHeartbeats 1000000 in
theorem marksA_any (A : Option Addr) (base top c k n : Nat) (vs : List Value) (d : Value) (LL : List (List Int)) (D : List Int) (w : World) (h : Marked w base A c vs d n (LL ++ [D])) (hn : n ≤ 1099511627776) (hk : k + totL LL ≤ 1099511627776) (htop : ∀ (i : Nat) (L : List Int) (u : Value) (g : Nat), (vs ++ [d])[i]? = some u → LL[i]? = some L → 0 < L.length → u.ownBlock = some g → g < top) :
    Calls Try.prog 44 #[.slice A n c, .int .i64 (k : Int)] w fun e w' => e = .returned (.int .i64 ((k + totL LL : Nat) : Int)) ∧ Marked w' base A c vs d n (numL k LL ++ [D]) ∧ Btw base top w w' ∧ Others w w' := by
  have hll : LL.length = n := by have := h.len; rw [List.length_append] at this; simp at this; omega
  have HLL := Lib.hid hll
  have hvl : vs.length = n := by have := h.own.1; omega
  have HVL := Lib.hid hvl
  have HM := Lib.hid h
  have HK := Lib.hid hk
  have HTOP := Lib.hid htop
  clear h hll hvl hk htop
  go_enter Try.func44, Try.ntmps44
  go_wp2_with fail
  go_loopw [1, 5] (fun u i wr => ∃ (j x : Nat), j ≤ n ∧ i = .int .i64 j ∧ u = .int .i64 x ∧ Hid (x = k + totL (LL.take j)) ∧ Hid (Marked wr base A c vs d n ((numL k LL).take j ++ LL.drop j ++ [D])) ∧ Hid (Btw base top w wr) ∧ Hid (Others w wr)) (fun _ i _ => n - (intOf i).toNat)
  case atStart => exact ⟨0, k, Nat.zero_le _, rfl, rfl, Lib.hid (by simp [totL]), Lib.hid (by simpa using HM.out), Lib.hid (Btw.refl _ _ _), Lib.hid (fun _ _ _ _ _ h => h)⟩
  case round =>
    obtain ⟨j, x, hj, rfl, rfl, hx, hm, hgr, hpr⟩ := hrel
    by_cases hlt : j < n
    · obtain ⟨L, hL⟩ : ∃ L, LL[j]? = some L := ⟨_, List.getElem?_eq_getElem (by have := HLL.out; omega)⟩
      have hFL : ((numL k LL).take j ++ LL.drop j ++ [D])[j]? = some L := by
        have h1 : ((numL k LL).take j).length = j := by rw [List.length_take, numL_len]; have := HLL.out; omega
        rw [List.append_assoc, List.getElem?_append_right (by omega), h1, Nat.sub_self, drop_at hL]
        rfl
      obtain ⟨v, hv, how⟩ := hm.out.fam.1 j L (by omega) hFL
      have hvs : vs[j]? = some v := by rw [List.getElem?_append_left (by have := HVL.out; omega)] at hv; exact hv
      obtain ⟨g, rfl⟩ : ∃ g, A = some ⟨g, 0, none⟩ := by
        rcases hm.out.own.2 with ⟨hv, hn0⟩ | ⟨g, cap, cur, hv, _⟩
        · omega
        · cases hv; exact ⟨g, rfl⟩
      have hcell := (hm.out.own.cellAt j (by omega)).trans hvs
      have hll := totL_at hL
      have hst := totL_step hL
      have htl := totL_take_le LL (j + 1)
      have HC := Lib.hid (mark_row v base x L wr how (by have := HK.out; omega) (by have := HK.out; have := hx.out; omega))
      have HST := Lib.hid (fun (w' : World) (hg : wr.grownBy w' (if 0 < L.length then v.ownBlock else none)) (ho : OwnR w' base v (upFrom x L.length)) => hm.out.step (by omega) hv hFL hg ho (upFrom_length _ _))
      have HOW := Lib.hid how
      have HTP := Lib.hid (fun (h0 : 0 < L.length) (b : Nat) (hb : v.ownBlock = some b) => HTOP.out j L v b hv hL h0 hb)
      have HSN := Lib.hid (set_num (D := D) (k := k) hL)
      have HTS := Lib.hid hst
      have HTL := Lib.hid htl
      obtain ⟨A8, c8, rfl, _⟩ := how
      obtain ⟨q, hq⟩ : ∃ q, L.length = q := ⟨_, rfl⟩
      have HQ := Lib.hid hq
      rw [hq] at hcell HC
      have hb1 : x + q ≤ 1099511627776 := by have := HK.out; have := hx.out; omega
      obtain ⟨y, hy⟩ : ∃ y, x + q = y := ⟨_, rfl⟩
      rw [hy] at HC hb1
      have HY := Lib.hid hy
      clear hL hFL hv hvs hll hst htl hq hy
      go_wp2_with fail
      refine HC.out.mono ?_
      rintro e w5 ⟨rfl, hg5, ho5⟩
      have hm5 := HST.out w5 (by rw [HQ.out]; exact hg5) (by rw [HQ.out]; exact ho5)
      rw [HQ.out] at hm5
      have hs5 := HSN.out
      rw [HQ.out, ← hx.out] at hs5
      rw [hs5] at hm5
      have HM5 := Lib.hid hm5
      have HG5 := Lib.hid (hgr.out.row hg5 (fun b hb => by
        by_cases h0 : 0 < L.length
        · rw [if_pos (by have := HQ.out; omega)] at hb
          exact ⟨(HOW.out.lt h0 b (by rw [HQ.out]; exact hb)).1, HTP.out h0 b (by rw [HQ.out]; exact hb)⟩
        · rw [if_neg (by have := HQ.out; omega)] at hb
          cases hb))
      have HPR := Lib.hid (show Others w w5 from fun g0 cs t m ht h1 => int_kept ht (hpr.out g0 cs t m ht h1) HOW.out (by rw [HQ.out]; exact hg5))
      clear hg5 ho5 hm5 hs5
      go_wp2_with fail
      go_roundw
      case rel => exact ⟨j + 1, y, by omega, by go_num, rfl, Lib.hid (by have := HTS.out; have := hx.out; have := HQ.out; have := HY.out; omega), HM5, HG5, HPR⟩
      case measure => simp [intOf]; omega
    · have hjn : j = n := by omega
      have HJ := Lib.hid hjn
      clear hjn
      go_wp2_with fail
      go_ret
      have e1 : LL.take j = LL := List.take_of_length_le (by have := HLL.out; have := HJ.out; omega)
      have h1 := hx.out
      have h2 := hm.out
      rw [e1] at h1
      rw [List.take_of_length_le (by rw [numL_len]; have := HLL.out; have := HJ.out; omega), List.drop_of_length_le (by have := HLL.out; have := HJ.out; omega), List.append_nil] at h2
      exact ⟨by first | (rw [← h1]; rfl) | (rw [show ((k : Int) + ((totL LL : Nat) : Int)) = (x : Int) from by omega]; rfl), h2, hgr.out, hpr.out⟩
end

/- VMarkA -/
section
open Go.RowKit

/-- A layout whose memory is all its own, and lies below a mark. -/
def OwnLytT (w : World) (base top : Nat) (v : Value) (LL : List (List Int)) (D : List Int) : Prop :=
  ∃ A c d vs, v = .agg #[.slice A LL.length c, d] ∧ LL.length ≤ c ∧ w.ownsRow base 23 1 (.slice A LL.length c) LL.length vs ∧ Fam w base (LL.length + 1) (vs ++ [d]) (LL ++ [D]) ∧
    ∀ (i : Nat) (L : List Int) (u : Value) (g : Nat), (vs ++ [d])[i]? = some u → (LL ++ [D])[i]? = some L → 0 < L.length → u.ownBlock = some g → g < top
theorem OwnLytT.own {w : World} {base top : Nat} {v : Value} {LL : List (List Int)} {D : List Int} (h : OwnLytT w base top v LL D) : OwnLyt w base v LL D := by
  obtain ⟨A, c, d, vs, h1, h2, h3, h4, _⟩ := h
  exact ⟨A, c, d, vs, h1, h2, h3, h4⟩
theorem OwnLyt.top {w : World} {base : Nat} {v : Value} {LL : List (List Int)} {D : List Int} (h : OwnLyt w base v LL D) : OwnLytT w base w.heap.size v LL D := by
  obtain ⟨A, c, d, vs, h1, h2, h3, h4⟩ := h
  exact ⟨A, c, d, vs, h1, h2, h3, h4, fun i L u g hu hL hl hg => (h4.lt (by have := (List.getElem?_eq_some_iff.1 hL).1; simpa using this) hL hu hl hg).2⟩
theorem OwnLytT.keep {w w' : World} {base top : Nat} {v : Value} {LL : List (List Int)} {D : List Int} (h : OwnLytT w base top v LL D) (hk : ∀ g, base ≤ g → g < w.heap.size → w'.heap[g]? = w.heap[g]?) : OwnLytT w' base top v LL D := by
  obtain ⟨A, c, d, vs, rfl, hc, ho, hf, ht⟩ := h
  exact ⟨A, c, d, vs, rfl, hc, own_keep ho (fun g hg => hk g (ho.lt g hg).1 (ho.lt g hg).2), hf.kept (fun i L v g hi hL hv hl hg => hk g (hf.lt hi hL hv hl hg).1 (hf.lt hi hL hv hl hg).2), ht⟩
/-- A vector whose memory is all its own, and lies below a mark. -/
def OwnVctT (w : World) (base top : Nat) (v : Value) (n : Int) (LL : List (List Int)) (D : List Int) : Prop :=
  ∃ x y, v = .agg #[.int .i64 n, x, y] ∧ OwnLytT w base top (.agg #[x, y]) LL D
theorem OwnVct.top {w : World} {base : Nat} {v : Value} {n : Int} {LL : List (List Int)} {D : List Int} (h : OwnVct w base v n LL D) : OwnVctT w base w.heap.size v n LL D := by
  obtain ⟨x, y, rfl, h⟩ := h
  exact ⟨x, y, rfl, h.top⟩
theorem OwnVctT.grown {w w' : World} {base top : Nat} {v : Value} {n : Int} {LL : List (List Int)} {D : List Int} (h : OwnVctT w base top v n LL D) (hg : w.grownBy w' none) : OwnVctT w' base top v n LL D := by
  obtain ⟨x, y, rfl, h⟩ := h
  exact ⟨x, y, rfl, h.keep (fun g _ hl => hg.block g hl (by simp))⟩
theorem OwnVctT.own {w : World} {base top : Nat} {v : Value} {n : Int} {LL : List (List Int)} {D : List Int} (h : OwnVctT w base top v n LL D) : OwnVct w base v n LL D := by
  obtain ⟨x, y, rfl, h⟩ := h
  exact ⟨x, y, rfl, h.own⟩

set_option maxHeartbeats 1000000 in
theorem marklTA_any (v : Value) (base top : Nat) (LL : List (List Int)) (D : List Int) (w : World) (h : OwnLytT w base top v LL D) (hn : LL.length ≤ 1099511627776) (hk : 1 + totL LL + D.length ≤ 1099511627776) :
    Calls Try.prog 10 #[v, .int .i64 1] w fun e w' => e = .returned (.int .i64 ((1 + totL LL + D.length : Nat) : Int)) ∧ numLyt w' v 1 LL D.length ∧ Btw base top w w' ∧ Others w w' := by
  obtain ⟨A, c, d, vs, rfl, hc, ho, hf, ht⟩ := h
  obtain ⟨n, hnn⟩ : ∃ n, LL.length = n := ⟨_, rfl⟩
  rw [hnn] at hc ho hf hn
  have hMk : Marked w base A c vs d n (LL ++ [D]) := ⟨ho, hf, by simp [hnn]⟩
  have hvn : vs.length = n := by have := ho.1; omega
  have hdv : (vs ++ [d])[n]? = some d := by rw [← hvn]; simp
  have hdL : (LL ++ [D])[n]? = some D := by rw [← hnn]; simp
  obtain ⟨d', hd', hod⟩ := hf.1 n D (by omega) hdL
  rw [hdv] at hd'
  cases hd'
  obtain ⟨B, e, rfl, hec, _⟩ := hod
  obtain ⟨m, hm⟩ : ∃ m, D.length = m := ⟨_, rfl⟩
  have HM := Lib.hid hm
  have HNN := Lib.hid hnn
  obtain ⟨x, hx⟩ : ∃ x, 1 + totL LL = x := ⟨_, rfl⟩
  have HX := Lib.hid hx
  rw [hm] at hMk hk hdv ht
  have HTD := Lib.hid (fun (h0 : 0 < D.length) (b : Nat) (hb : (Value.slice B m e).ownBlock = some b) => ht n D (.slice B m e) b hdv hdL h0 hb)
  rw [hnn, hm]
  have hMk2 : Marked (w.alloc (.cells #[.slice A n c, .slice B m e] 25)) base A c vs (.slice B m e) n (LL ++ [D]) := by
    have hg := World.grownBy_alloc w (.cells #[.slice A n c, .slice B m e] 25) none
    exact ⟨hMk.own.alloc _, hMk.fam.grown hg, hMk.len⟩
  have HP := Lib.hid (Pr.new w 25 (.slice A n c) (.slice B m e))
  have HS := Lib.hid (marksA_any A base top c 1 n vs (.slice B m e) LL D _ hMk2 hn (by omega) (fun i L u g hu hL hl hg => ht i L u g hu (by rw [List.getElem?_append_left (List.getElem?_eq_some_iff.1 hL).1]; exact hL) hl hg))
  have hx1 : x ≤ 1099511627776 := by omega
  rw [hx] at HS
  have HC := Lib.hid hc
  have HEC := Lib.hid hec
  have HDV := Lib.hid hdv
  have HVN := Lib.hid hvn
  obtain ⟨y, hy⟩ : ∃ y, 1 + totL LL + m = y := ⟨_, rfl⟩
  have HY := Lib.hid hy
  have hy1 : y ≤ 1099511627776 := by omega
  have hxy : x + m = y := by omega
  have HXY := Lib.hid hxy
  rw [hy]
  have HKM := Lib.hid (show m ≤ 1099511627776 by omega)
  clear ho hf ht hMk hMk2 hdv hdL hec hm hnn hx hc hvn hk hy hxy
  go_enter Try.func10, Try.ntmps10
  go_wp2_with fail
  refine HS.out.mono ?_
  rintro ee w1 ⟨rfl, hm1, hg1, hp1⟩
  have hP1 : Pr w1 w.heap.size 25 (.slice A n c) (.slice B m e) := hp1 _ _ _ _ (by decide) HP.out
  have p0 := hP1.c0
  have p1 := hP1.c1
  have HM1 := Lib.hid hm1
  have HG1 := Lib.hid hg1
  have HPP := Lib.hid (show Others w w1 from fun g0 cs t m ht h => hp1 g0 cs t m ht ((World.grownBy_alloc w _ none).block g0 (Array.getElem?_eq_some_iff.1 h).1 (by simp) |>.trans h))
  obtain ⟨d2, hd2, hod2⟩ := hm1.fam.1 n D (by omega) (by have := numL_len LL 1; have := HNN.out; rw [List.getElem?_append_right (by omega)]; simp [numL_len, HNN.out])
  rw [HDV.out] at hd2
  cases hd2
  have HOD := Lib.hid hod2
  have HR := Lib.hid (mark_row (.slice B m e) base x D w1 hod2 (by rw [HM.out]; exact HKM.out) hx1)
  rw [HM.out, HXY.out] at HR
  clear hm1 hg1 hp1 hP1 hod2
  go_wp2_with fail
  refine HR.out.mono ?_
  rintro ee w2 ⟨rfl, hg2, ho2⟩
  have hfl : (numL 1 LL ++ [D])[n]? = some D := by rw [List.getElem?_append_right (by rw [numL_len, HNN.out]; omega)]; simp [numL_len, HNN.out]
  have hm2 := HM1.out.step (w' := w2) (by omega) HDV.out hfl (by rw [HM.out]; exact hg2) ho2 (by rw [upFrom_length, HM.out])
  have e1 : (numL 1 LL ++ [D]).set n (upFrom x m) = numL 1 LL ++ [upFrom x m] := by
    rw [List.set_append_right _ _ (by rw [numL_len, HNN.out]; omega), numL_len, HNN.out, Nat.sub_self]
    rfl
  rw [e1] at hm2
  have HM2 := Lib.hid hm2
  have HG2 := Lib.hid (show Btw base top w w2 from ((((Btw.refl base top w).row (World.grownBy_alloc w (.cells #[.slice A n c, .slice B m e] 25) none) (by simp)).trans HG1.out).row hg2 (fun b hb => by
    by_cases h0 : 0 < m
    · rw [if_pos h0] at hb
      obtain ⟨d3, hd3, hod3⟩ := HM1.out.fam.1 n D (by omega) hfl
      rw [HDV.out] at hd3
      cases hd3
      exact ⟨(hod3.lt (by rw [HM.out]; exact h0) b hb).1, HTD.out (by rw [HM.out]; exact h0) b hb⟩
    · rw [if_neg h0] at hb
      cases hb)))
  have HPQ := Lib.hid (show Others w w2 from fun g0 cs t m ht h => int_kept ht (HPP.out g0 cs t m ht h) HOD.out (by rw [HM.out]; exact hg2))
  clear hg2 ho2 hm2
  go_wp2_with fail
  go_ret
  refine ⟨rfl, ?_, HG2.out, HPQ.out⟩
  have hf2 := HM2.out.fam
  have ho2 := HM2.out.own
  obtain ⟨d3, hd3, hod3⟩ := hf2.1 n (upFrom x m) (by omega) (by rw [List.getElem?_append_right (by rw [numL_len, HNN.out]; omega)]; simp [numL_len, HNN.out])
  rw [HDV.out] at hd3
  cases hd3
  obtain ⟨hm3, hec3, hi3⟩ := hod3.ints
  refine ⟨A, c, B, e, by rw [numL_len, upFrom_length, HNN.out], by rw [numL_len, HNN.out]; exact HC.out, by rw [upFrom_length, ← HM.out]; exact HEC.out, rws_own (vs := vs) (by rw [numL_len, HNN.out]; exact ho2) (fun i L hL => ?_), by rw [HX.out]; exact hi3⟩
  have hi := (List.getElem?_eq_some_iff.1 hL).1
  rw [numL_len] at hi
  obtain ⟨v, hv, hov⟩ := hf2.1 i L (by have := HNN.out; omega) (by rw [List.getElem?_append_left (by rw [numL_len]; exact hi)]; exact hL)
  rw [List.getElem?_append_left (by have := HVN.out; have := HNN.out; omega)] at hv
  exact ⟨v, hv, hov⟩


set_option maxHeartbeats 1000000 in
theorem markvA_any (v : Value) (n : Int) (base top : Nat) (LL : List (List Int)) (D : List Int) (w : World) (h : OwnVctT w base top v n LL D) (hn : LL.length ≤ 1099511627776) (hk : 1 + totL LL + D.length ≤ 1099511627776) :
    Calls Try.prog 19 #[v, .int .i64 1] w fun e w' => e = .returned (.int .i64 ((1 + totL LL + D.length : Nat) : Int)) ∧ numVct w' v n 1 LL D.length ∧ Btw base top w w' ∧ Others w w' := by
  obtain ⟨x, y, rfl, hl⟩ := h
  have hg0 := World.grownBy_alloc w (.cells #[.int .i64 n, x, y] 34) none
  have hlA : OwnLytT (w.alloc (.cells #[.int .i64 n, x, y] 34)) base top (.agg #[x, y]) LL D := hl.keep (fun g _ hg => hg0.block g hg (by simp))
  have HM := Lib.hid (marklTA_any (.agg #[x, y]) base top LL D _ hlA hn hk)
  have HG0 := Lib.hid hg0
  obtain ⟨A, c, B, d, he, _⟩ := id hl.own.lyt
  cases he
  obtain ⟨na, hna⟩ : ∃ na, LL.length = na := ⟨_, rfl⟩
  obtain ⟨nd', hnd⟩ : ∃ nd', D.length = nd' := ⟨_, rfl⟩
  obtain ⟨q, hq⟩ : ∃ q, 1 + totL LL + nd' = q := ⟨_, rfl⟩
  rw [hna, hnd, hq] at HM
  rw [hna, hnd] at HG0
  rw [hna, hnd, hq]
  clear hl hlA hg0 hn hk hna hnd hq
  go_enter Try.func19, Try.ntmps19
  go_wp2_with fail
  refine HM.out.mono ?_
  rintro e w1 ⟨rfl, hn1, hg1, ho1⟩
  have HN1 := Lib.hid hn1
  have HG1 := Lib.hid hg1
  have HO1 := Lib.hid ho1
  clear hn1 hg1 ho1
  go_wp2_with fail
  go_ret
  refine ⟨rfl, ?_, ((Btw.refl base top w).row HG0.out (by simp)).trans HG1.out, fun g0 cs t m ht hc => HO1.out g0 cs t m ht ((HG0.out.block g0 (Array.getElem?_eq_some_iff.1 hc).1 (by simp)).trans hc)⟩
  obtain ⟨A2, c2, B2, d2, he2, h1, h2, h3, h4⟩ := HN1.out
  simp only [Value.agg.injEq, Array.mk.injEq, List.cons.injEq, and_true] at he2
  obtain ⟨e1, e2⟩ := he2
  exact ⟨A2, c2, B2, d2, by rw [e1, e2], h1, h2, h3, h4⟩
end

/- LytArg -/
section
open Go.ChangeShapes Go.WideShapes Go.ChangeAt Go.RowKit Go.Joins Go.Deep
open Go.ChangeMaps (open_string shut_string)

theorem knob_own : ownKnob Try.prog.godebug = none := by kernel_rfl
theorem below_of {w w' : World} (h : w.grownBy w' none) : Below w.heap.size w w' := ⟨h.os, h.tape, h.output, h.size, fun k hk => h.block k hk (by simp)⟩
theorem cellsI : Try.prog.cellsOf 3 = 1 := by kernel_rfl
theorem cellsL : Try.prog.cellsOf 23 = 1 := by kernel_rfl
theorem laid_out : laidOutB Try.prog = true := by kernel_rfl

theorem ints_cells {W : World} {a : Addr} {L : List Int} (h : ∀ c, c < L.length → W.cell? (a.add c) = some (.int .i64 (L.getD c 0))) : Ints W (some a) L := fun hpos => by
  obtain ⟨b, off, spot⟩ := a
  have hspot : spot = none := by simpa [Addr.add] using World.cell?_spot (h 0 (by omega))
  subst hspot
  have hc0 := h 0 (by omega)
  rw [addr_flat] at hc0
  refine ⟨b, off, rfl, World.block_lt_of_cell? W _ hc0, fun j z hj => ?_⟩
  have hjl : j < L.length := (List.getElem?_eq_some_iff.1 hj).1
  have := h j hjl
  rw [addr_flat] at this
  rw [this, List.getD_eq_getElem?_getD, hj]
  rfl

section
variable {H : Type} {enc : TypeId × Value → H}

theorem open_listarg {W : World} {fuel : Nat} {v : Value} {x : DataW H × List MemPlace} (h : DataW.trod enc Try.prog W 0 (fun _ => true) true fuel 23 [v] = some x) :
    ∃ A c D, v = .slice A (D : List Int).length c ∧ D.length ≤ c ∧ c ≤ maxLen ∧ Ints W A D ∧ ∀ n ∈ D, (Lit.int .i64 n).wf = true := by
  rcases open_ints Try.underlying23 Try.underlying3 cellsI h with ⟨hcs, _⟩ | ⟨a, len, cap, zs, hcs, _, hl, hm, hz, _, hcell, hwz⟩
  · simp only [List.cons.injEq, and_true] at hcs
    exact ⟨none, 0, [], hcs, Nat.le_refl _, Nat.zero_le _, fun h => by simp at h, by simp⟩
  · simp only [List.cons.injEq, and_true] at hcs
    simp only [if_true] at hz
    have hle : (zs.take len).length = len := by rw [List.length_take]; omega
    refine ⟨some a, cap, zs.take len, by rw [hle]; exact hcs, by omega, hm, ints_cells (fun c hc => ?_), fun n hn => hwz n (List.mem_of_mem_take hn)⟩
    rw [hcell c (by omega)]
    simp only [List.getD_eq_getElem?_getD, List.getElem?_take, if_pos (show c < len by omega)]

theorem open_rowsarg {W : World} {fuel : Nat} {v : Value} {x : DataW H × List MemPlace} (h : DataW.trod enc Try.prog W 0 (fun _ => true) true fuel 22 [v] = some x) :
    ∃ A c LL, v = .slice A (LL : List (List Int)).length c ∧ LL.length ≤ c ∧ c ≤ maxLen ∧ Rws W A LL ∧ (∀ L ∈ LL, L.length ≤ maxLen) ∧ ∀ L ∈ LL, ∀ n ∈ L, (Lit.int .i64 n).wf = true := by
  rcases open_int_rows Try.underlying22 Try.underlying23 Try.underlying3 cellsL cellsI h with ⟨hcs, _⟩ | ⟨a, len, cap, A, L, C, Z, hcs, _, hl, hm, _, hr⟩
  · simp only [List.cons.injEq, and_true] at hcs
    exact ⟨none, 0, [], hcs, Nat.le_refl _, Nat.zero_le _, fun h => by simp at h, by simp, by simp⟩
  · simp only [List.cons.injEq, and_true] at hcs
    have hlen : ((List.range len).map fun r => (Z r).take (L r)).length = len := by simp
    have hrow : ∀ r, r < len → ((Z r).take (L r)).length = L r := fun r hrl => by
      obtain ⟨_, h1, _, h3, _⟩ := hr r (by omega)
      rw [List.length_take]; omega
    refine ⟨some a, cap, (List.range len).map fun r => (Z r).take (L r), by rw [hlen]; exact hcs, by omega, hm, ?_, ?_, ?_⟩
    · intro hpos
      rw [hlen] at hpos
      obtain ⟨hc0, _⟩ := hr 0 (by omega)
      obtain ⟨b, off, spot⟩ := a
      have hspot : spot = none := by simpa [Addr.add] using World.cell?_spot hc0
      subst hspot
      rw [addr_flat] at hc0
      refine ⟨b, off, rfl, World.block_lt_of_cell? W _ hc0, fun j M hj => ?_⟩
      have hjl : j < len := by have := (List.getElem?_eq_some_iff.1 hj).1; omega
      rw [List.getElem?_map, List.getElem?_range hjl] at hj
      simp only [Option.map_some, Option.some.injEq] at hj
      subst hj
      obtain ⟨h1, h2, h3, h4, _, h6, h7⟩ := hr j (by omega)
      rw [addr_flat] at h1
      refine ⟨A j, C j, by rw [hrow j hjl]; exact h1, by rw [hrow j hjl]; exact h2, ?_⟩
      intro hp
      rw [hrow j hjl] at hp
      cases hA : A j with
      | none => have := h6 hA; omega
      | some a' =>
        obtain ⟨_, hcc⟩ := h7 a' hA
        refine ints_cells (fun c hc => ?_) (by rw [hrow j hjl]; exact hp)
        rw [hrow j hjl] at hc
        rw [hcc c (by omega)]
        simp only [List.getD_eq_getElem?_getD, List.getElem?_take, if_pos hc]
    · intro M hM
      obtain ⟨r, hr1, rfl⟩ := List.mem_map.1 hM
      have hrl := List.mem_range.1 hr1
      rw [hrow r hrl]
      obtain ⟨_, h2, h3, _⟩ := hr r (by omega)
      omega
    · intro M hM n hn
      obtain ⟨r, hr1, rfl⟩ := List.mem_map.1 hM
      have hrl := List.mem_range.1 hr1
      obtain ⟨_, _, _, _, h5, _⟩ := hr r (by omega)
      exact h5 n (List.mem_of_mem_take hn)
end
end

/- LytL -/
section
open Go.ChangeShapes Go.WideShapes Go.ChangeAt Go.RowKit Go.Joins Go.Deep
open Go.ChangeMaps (open_string shut_string)

section
variable {H : Type} {enc : TypeId × Value → H}

set_option maxRecDepth 100000 in
theorem open_layout {W : World} {base : Nat} {v : Value} {d : DataW H} {p : List MemPlace} (hval : Value.okWide Try.prog W .any base 42 v) (h : DataW.Trod enc Try.prog W 0 (fun _ => true) true 42 v d p) :
    ∃ LL D, Lyt W v LL D ∧ LL.length ≤ 9223372036854775807 ∧ (∀ M ∈ LL, M.length ≤ 9223372036854775807) ∧ D.length ≤ 9223372036854775807 ∧ (∀ L ∈ LL, ∀ n ∈ L, (Lit.int .i64 n).wf = true) ∧ ∀ n ∈ D, (Lit.int .i64 n).wf = true := by
  obtain ⟨v0, v1, y0, y1, n, rfl, _, _, h0, h1⟩ := open_agg2 Try.underlying42 (by kernel_rfl) (by kernel_rfl) hval h
  obtain ⟨A, c, LL, rfl, a1, a2, a3, a4, a5⟩ := open_rowsarg h0
  obtain ⟨B, e, D, rfl, b1, b2, b3, b4⟩ := open_listarg h1
  have hmx : maxLen ≤ 9223372036854775807 := by simp [maxLen]
  exact ⟨LL, D, ⟨A, c, B, e, rfl, a1, b1, a3, b3⟩, by omega, fun M hM => Nat.le_trans (a4 M hM) hmx, by omega, a5, b4⟩
end
end

/- VecArg -/
section
open Go.ChangeShapes Go.WideShapes Go.ChangeAt Go.RowKit Go.Joins Go.Deep
open Go.ChangeMaps (open_string shut_string)

section
variable {H : Type} {enc : TypeId × Value → H}

set_option maxRecDepth 100000 in
set_option maxHeartbeats 1000000 in
theorem open_vector {W : World} {base : Nat} {v : Value} {d : DataW H} {p : List MemPlace} (hval : Value.okWide Try.prog W .any base 44 v) (h : DataW.Trod enc Try.prog W 0 (fun _ => true) true 44 v d p) :
    ∃ k LL D, Vct W v k LL D ∧ (Lit.int .i64 k).wf = true ∧ LL.length ≤ 9223372036854775807 ∧ (∀ M ∈ LL, M.length ≤ 9223372036854775807) ∧ D.length ≤ 9223372036854775807 ∧ (∀ L ∈ LL, ∀ n ∈ L, (Lit.int .i64 n).wf = true) ∧ ∀ n ∈ D, (Lit.int .i64 n).wf = true := by
  obtain ⟨cs, rfl, hsz⟩ := okWide_struct Try.underlying44 hval
  obtain ⟨c0, c1, c2, rfl⟩ := array3 (hsz.trans (by kernel_rfl))
  obtain ⟨fuel, hf⟩ := h
  obtain ⟨y0, y1, n, -, -, h0, h1⟩ := trod_struct2 Try.underlying44 hf
  have e0 : Try.prog.cellsOf 3 = 1 := cellsI
  have e1 : Try.prog.cellsOf 42 = 2 := by kernel_rfl
  simp only [Value.cells, e0, e1, List.drop_zero, List.drop_succ_cons, List.take_succ_cons, List.take_zero] at h0 h1
  obtain ⟨k, hk, hx, hw⟩ := DataW.trod_int Try.underlying3 h0
  obtain ⟨z0, z1, n2, -, -, g0, g1⟩ := trod_struct2 Try.underlying42 h1
  have e2 : Try.prog.cellsOf 22 = 1 := by kernel_rfl
  simp only [cellsL, e2, List.drop_zero, List.drop_succ_cons, List.take_succ_cons, List.take_zero] at g0 g1
  simp only [List.cons.injEq, and_true] at hk
  subst hk
  obtain ⟨A, c, LL, rfl, a1, a2, a3, a4, a5⟩ := open_rowsarg g0
  obtain ⟨B, e, D, rfl, b1, b2, b3, b4⟩ := open_listarg g1
  have hmx : maxLen ≤ 9223372036854775807 := by simp [maxLen]
  exact ⟨k, LL, D, ⟨A, c, B, e, rfl, a1, b1, a3, b3⟩, hw, by omega, fun M hM => Nat.le_trans (a4 M hM) hmx, by omega, a5, b4⟩
end
end

end Go.Proofs.Ytdfanconjiiceaa
