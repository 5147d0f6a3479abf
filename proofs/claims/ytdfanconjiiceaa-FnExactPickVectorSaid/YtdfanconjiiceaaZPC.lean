/- 15 texts in one: Put AppR Add Fod PutS Spec Num13 SNum SNode SLoop SNodeS SRead L1Read LayImpl VPick. -/
import Derived.Test.YtdfanconjiiceaaLayMem
import Derived.Test.YtdfanconjiiceaaPutB
import Derived.Test.YtdfanconjiiceaaZPA
import Derived.Maps.AppendAt
import Derived.Deep.RegionLaw
import Derived.Deep.AppendLies
import Derived.Deep.CutRange
import Derived.Test.YtdfanconjiiceaaFam
import Derived.Lib.AppendZerosOnto
import Derived.Test.YtdfanconjiiceaaArrs
import Derived.Lib.SliceRun
import Derived.Test.YtdfanconjiiceaaStrs0
import Derived.Test.YtdfanconjiiceaaIn
import Derived.IntWalk
import Derived.Test.YtdfanconjiiceaaSNd
import Derived.Test.YtdfanconjiiceaaRep
import Derived.Test.YtdfanconjiiceaaLoop
import Derived.Test.YtdfanconjiiceaaClone
import Derived.Test.YtdfanconjiiceaaLvText
import Derived.Test.YtdfanconjiiceaaVctQ
import Derived.Deep.RegionWith
namespace Go.Proofs.Ytdfanconjiiceaa
/- Put -/
section
open Go.RowKit



/-- The program's and the model's struct of levels and numbers. -/
def Flat (w : World) (base gf : Nat) (d : Value) (LL : List (List Int)) (D : List Int) : Prop :=
  ∃ g c, Pr w gf 70 d (.slice (some ⟨g, 0, none⟩) LL.length c) ∧ LaidAt w base g c d LL D ∧ base ≤ w.heap.size ∧ base ≤ gf

/-- The first statement of layParts: a length more at a level. -/
def LenPost (base gf k : Nat) (z : Int) (LL : List (List Int)) (D L : List Int) (d : Value) (w w' : World) : Prop := Below base w w' ∧ Flat w' base gf d (LL.set k (L ++ [z])) D

set_option maxHeartbeats 400000 in
theorem put_any (gf base : Nat) (z : Int) (d : Value) (LL : List (List Int)) (D : List Int) (w : World) (h : Flat w base gf d LL D) (hl : D.length ≤ 1000000) :
    Calls Try.prog 77 #[.pointer (some ⟨gf, 0, none⟩), .int .i64 z] w fun e w' => e = .returned (.tuple #[]) ∧ Below base w w' ∧ ∃ d', Flat w' base gf d' LL (D ++ [z]) := by
  obtain ⟨i0, hi0, hz0, hz1, hz2⟩ := info_parts infoJ
  obtain ⟨g, c, hp, h, hb, hgf⟩ := h
  have HP := Lib.hid hp
  obtain ⟨hown, hnext⟩ := h.data (z := z)
  have HN := Lib.hid hnext
  have c0 := hp.c0
  have f0 := hp.f 0
  have HO := Lib.hid hown
  obtain ⟨A, k, e, rfl⟩ := own_form hown
  obtain rfl : k = D.length := own_len2 hown
  have HH := Lib.hid h
  obtain ⟨q, hq⟩ : ∃ q, D.length = q := ⟨_, rfl⟩
  have HQ := Lib.hid hq
  rw [hq] at c0 hl
  clear h hp hown hnext hq
  go_enter Try.func77, Try.ntmps77
  have own1 : (w.alloc (.cells #[.int .i64 z] 3)).ownsRow base 3 1 (.slice A q e) q (D.map (Value.int .i64)) := by
    have := HO.out.alloc (.cells #[.int .i64 z] 3)
    rwa [HQ.out] at this
  go_wp2_with (at_builtin; refine wpList_append_own_at _ rfl _ _ 23 rfl base 3 i0 (.int .i64 0) 1 8 Try.underlying23 hi0 hz0 hz1 hz2 rfl (by decide) _ _ _ rfl own1 ⟨w.heap.size, 0, none⟩ 1 1 [.int .i64 z] rfl rfl (cell_one_new _ _ _) ?c2 ?c3 ?c4 ?c5 ?_)
  case c2 => simp [Value.oneCell']
  case c3 => simp only [maxLen]; omega
  case c4 => omega
  case c5 => simp; omega
  intro v8 w8 hown8 hg8 _ hat8
  have hg9 : w.grownBy w8 (Value.slice A q e).ownBlock := (World.grownBy_alloc w (.cells #[.int .i64 z] 3) _).trans hg8
  have hat : ∀ b, v8.ownBlock = some b → (Value.slice A q e).ownBlock = some b ∨ w.heap.size ≤ b := by
    intro b hb
    rcases hat8 with h | h
    · left; rw [← h]; exact hb
    · right; rw [hb] at h; simp at h; omega
  have hnx := HN.out w8 v8 (by rw [HQ.out]; exact hg9) (by rw [HQ.out]; exact hown8) (by rw [HQ.out]; exact hat)
  have hown0 : w.ownsRow base 3 1 (.slice A q e) q (D.map (Value.int .i64)) := by have := HO.out; rwa [HQ.out] at this
  have P8 := (show Pr w gf 70 (.slice A q e) (.slice (some ⟨g, 0, none⟩) LL.length c) by have := HP.out; rwa [HQ.out] at this).row hown0 (by decide) hg9
  have e0 := P8.c0
  have e1 := P8.f 0
  obtain ⟨A8, m8, c8, rfl⟩ := own_form hown8
  have HNX := Lib.hid hnx
  have HP8 := Lib.hid P8
  have HB8 := Lib.hid (below_row hown0 hb hg9)
  have HS8 := Lib.hid hg9.size
  clear hown8 hg8 hat8 hg9 hat hnx hown0 P8 own1 c0 f0
  go_wp2_with fail
  go_end0
  have hs9 := gr_set w8 gf 0 (.slice A8 m8 c8)
  exact ⟨rfl, HB8.out.trans (below_set hgf), _, g, c, HP8.out.set0 _, HNX.out.other HP8.out (by decide) (by decide) hs9, Nat.le_trans hb (Nat.le_trans HS8.out hs9.size), hgf⟩

/-- The first statement's facts: the level's row, and what the store does. -/
theorem len_step {w : World} {base gf k : Nat} {z : Int} {d : Value} {LL : List (List Int)} {D L : List Int} (h : Flat w base gf d LL D) (hL : LL[k]? = some L) :
    ∃ g c A e, Pr w gf 70 d (.slice (some ⟨g, 0, none⟩) LL.length c) ∧ k < LL.length ∧ w.cell? ⟨g, k, none⟩ = some (.slice A L.length e) ∧ w.frozen? ⟨g, k, none⟩ = false ∧ base ≤ w.heap.size ∧
      w.ownsRow base 3 1 (.slice A L.length e) L.length (L.map (Value.int .i64)) ∧
      ∀ (w1 : World) (gg cap : Nat), w.grownBy w1 (Value.slice A L.length e).ownBlock → w1.ownsRow base 3 1 (.slice (some ⟨gg, 0, none⟩) (L.length + 1) cap) (L.length + 1) (L.map (Value.int .i64) ++ [.int .i64 z]) → ((Value.slice A L.length e).ownBlock = some gg ∨ w.heap.size ≤ gg) →
        (∃ y, w1.cell? ⟨g, k, none⟩ = some y) ∧ w1.frozen? ⟨g, k, none⟩ = false ∧ w1.cell? ⟨gf, 1, none⟩ = some (.slice (some ⟨g, 0, none⟩) LL.length c) ∧
        Below base w (w1.setCell ⟨g, k, none⟩ (.slice (some ⟨gg, 0, none⟩) (L.length + 1) cap)) ∧ Flat (w1.setCell ⟨g, k, none⟩ (.slice (some ⟨gg, 0, none⟩) (L.length + 1) cap)) base gf d (LL.set k (L ++ [z])) D := by
  obtain ⟨g, c, hp, h, hb, hgf⟩ := h
  obtain ⟨v, hc, hf, ho, hnx⟩ := h.level (z := z) hL
  have hk : k < LL.length := (List.getElem?_eq_some_iff.1 hL).1
  obtain ⟨A, m, e, rfl⟩ := own_form ho
  obtain rfl : m = L.length := own_len2 ho
  refine ⟨g, c, A, e, hp, hk, hc, hf, hb, ho, fun w1 gg cap hg hw hat => ?_⟩
  obtain ⟨hy, hf1, hl⟩ := hnx w1 (.slice (some ⟨gg, 0, none⟩) (L.length + 1) cap) hg hw (fun b hb => by cases hb; exact hat)
  have hp1 := hp.row ho (by decide) hg
  obtain ⟨vs, hov, _⟩ := h
  have hgb := (hov.lt g rfl).1
  have hs := gr_set w1 g k (.slice (some ⟨gg, 0, none⟩) (L.length + 1) cap)
  have hne : some gf ≠ some g := fun e2 => by
    cases e2
    obtain ⟨cs, hcs⟩ := own_cells hov
    unfold Pr at hp
    rw [hp] at hcs
    cases hcs
  refine ⟨hy, hf1, hp1.c1, (below_row ho hb hg).trans (below_set hgb), g, c, ?_, hl, Nat.le_trans hb (Nat.le_trans hg.size hs.size), hgf⟩
  have := hp1.grown hs hne
  rwa [List.length_set]

theorem prow1 {w : World} {base e : Nat} {A : Option Addr} {k c : Nat} {xs : List Value} (h : w.ownsRow base e 1 (.slice A k c) xs.length xs) :
    k = xs.length ∧ (0 < k → ∃ g, A = some ⟨g, 0, none⟩ ∧ ∀ (j : Nat) (x : Value), xs[j]? = some x → w.cell? ⟨g, j, none⟩ = some x) := by
  rcases h.2 with ⟨hv, hn⟩ | ⟨g, cap, cur, hv, _, hg, hnc, _, hcs, htake⟩
  · cases hv
    exact ⟨by omega, fun h => by omega⟩
  · cases hv
    refine ⟨rfl, fun _ => ⟨g, rfl, fun j x hj => ?_⟩⟩
    have hjl := (List.getElem?_eq_some_iff.1 hj).1
    rw [cell_of_row w g j _ _ (0, 0) hg]
    have : (cur.toList.take (xs.length * 1))[j]? = some x := by rw [htake, hj]
    rw [List.getElem?_take, if_pos (by omega)] at this
    simpa using this
theorem RepI.below {w w' : World} {S : Nat → Prop} {base d : Nat} {t : T d} {v : Value} (h : RepI w S d t v) (hS : ∀ b, S b → b < base) (hb : Below base w w') : RepI w' S d t v :=
  RepI.keep (fun b hs _ => hb.block b (hS b hs)) (fun _ hs _ => hs) d t v h

/-- What lay does with an array of a depth. -/
def LayP (d : Nat) : Prop := ∀ (t : T d) (gf base k : Nat) (S : Nat → Prop) (v d0 : Value) (LL : List (List Int)) (D : List Int) (w : World), Flat w base gf d0 LL D → RepI w S d t v → (∀ b, S b → b < base) → LL.length = k + d → k + d ≤ 10 → Short (behind k LL (lv d [t])) → (D ++ dat d [t]).length ≤ 1000000 →
  Calls Try.prog 41 #[.pointer (some ⟨gf, 0, none⟩), v, .int .i64 k] w fun e w' => e = .returned (.tuple #[]) ∧ Below base w w' ∧ ∃ d', Flat w' base gf d' (behind k LL (lv d [t])) (D ++ dat d [t])


set_option maxRecDepth 100000 in
set_option maxHeartbeats 4000000 in
theorem layq0 (ih : LayP 0) (ts : List (T 0)) (gf base k : Nat) (S : Nat → Prop) (A : Option Addr) (m e : Nat) (xs : List Value) (d : Value) (LL : List (List Int)) (D : List Int) (w : World) (h : Flat w base gf d LL D)
    (hx : w.ownsRow 0 (elT 0) 1 (.slice A m e) xs.length xs) (hxs : ∀ g, (Value.slice A m e).ownBlock = some g → S g) (ha : All2 (Nd w S 0) ts xs) (hS : ∀ b, S b → b < base) (hlen : LL.length = k + (0 + 1)) (hk10 : k + (0 + 1) ≤ 10)
    (hsh : Short (behind k LL (lv (0 + 1) [(show T (0 + 1) from ts)]))) (hdl : (D ++ dat (0 + 1) [(show T (0 + 1) from ts)]).length ≤ 1000000) (hts : ts.length ≤ 1000000) :
    Calls Try.prog 78 #[.pointer (some ⟨gf, 0, none⟩), .slice A m e, .int .i64 k] w fun e w' => e = .returned (.tuple #[]) ∧ Below base w w' ∧ ∃ d', Flat w' base gf d' (behind k LL (lv (0 + 1) [(show T (0 + 1) from ts)])) (D ++ dat (0 + 1) [(show T (0 + 1) from ts)]) := by
  obtain ⟨L, hL⟩ : ∃ L, LL[k]? = some L := ⟨_, List.getElem?_eq_getElem (by omega)⟩
  have hl : L.length ≤ 1000000 := (hsh.of_behind hlen (lv_len _ _)).level hL
  have hmt : ts.length = m := by rw [(prow1 hx).1]; exact All2.length _ _ ha
  have hn1 : (LL.set k (L ++ [(m : Int)])).length = k + 1 + 0 := by rw [List.length_set]; omega
  have hbe : behind k LL (lv (0 + 1) [(show T (0 + 1) from ts)]) = behind (k + 1) (LL.set k (L ++ [(m : Int)])) (lv 0 ts) := by
    rw [← hmt]; exact behind_node _ hlen hL
  have hde : dat (0 + 1) [(show T (0 + 1) from ts)] = dat 0 ts := dat_one 0 _
  rw [hbe] at hsh
  rw [hde] at hdl
  rw [hbe, hde]
  have HSH := Lib.hid hsh
  have HDL := Lib.hid hdl
  have HN1 := Lib.hid hn1
  have HMT := Lib.hid hmt
  have HX := Lib.hid (fun (w' : World) (hb : Below base w w') => own_below hx (fun g hg => hS g (hxs g hg)) hb)
  have HA := Lib.hid ha
  have HSS := Lib.hid hS
  have HI := Lib.hid ih
  have HXL := Lib.hid (All2.length _ _ ha)
  have hm6 : m ≤ 1000000 := by omega
  clear hbe hde hsh hdl hn1 hmt hx hxs ha hS ih hlen
  obtain ⟨i0, hi0, hz0, hz1, hz2⟩ := info_parts infoJ
  obtain ⟨g, c, A2, e2, hp, hk, hc, hf, hb, ho, hnx⟩ := len_step (z := (m : Int)) h hL
  have c1 := hp.c1
  have HNX := Lib.hid hnx
  have HO := Lib.hid ho
  obtain ⟨q, hq⟩ : ∃ q, L.length = q := ⟨_, rfl⟩
  obtain ⟨n, hn⟩ : ∃ n, LL.length = n := ⟨_, rfl⟩
  rw [hn] at c1 hk
  rw [hq] at hc hl
  rw [hq, hn] at HNX
  rw [hq] at HO
  have own7 := (HO.out.alloc (.cells #[.int .i64 (m : Int)] 3)).kept (gr_drew _ none) (by cases hv : (Value.slice A2 q e2).ownBlock <;> simp)
  have hc2 := (World.grownBy_alloc w (.cells #[.int .i64 (m : Int)] 3) none).cell hc (by simp)
  have hc3 : ((w.alloc (.cells #[.int .i64 (m : Int)] 3)).drew).cell? ⟨g, k, none⟩ = _ := hc2
  have c2 := (World.grownBy_alloc w (.cells #[.int .i64 (m : Int)] 3) none).cell c1 (by simp)
  have c3 : ((w.alloc (.cells #[.int .i64 (m : Int)] 3)).drew).cell? ⟨gf, 1, none⟩ = _ := c2
  clear hL h hp hnx ho hq hn
  go_enter Try.func78, Try.ntmps78
  go_wp2_with fail
  go_cut [] from 8 to 24 (fun wx => Hid (Below base w wx) ∧ Hid (Flat wx base gf d (LL.set k (L ++ [(m : Int)])) D))
  case first =>
   go_region_law (first
    | (refine step_append_lies _ (by rfl) _ _ _ (by rfl) base 3 i0 _ 1 8 Try.underlying23 hi0 hz0 hz1 hz2 rfl (by omega) (.slice A2 q e2) q (L.map (Value.int .i64)) (by rfl) own7 ⟨w.heap.size, 0, none⟩ 1 1 [.int .i64 (m : Int)] (by rfl) (by rfl) (World.news_of_block (cs := #[.int .i64 (m : Int)]) (t := 3) (fr := (0, 0)) (heap_alloc_new _ _)) (by simp [Value.oneCell']) (by omega) (by simp only [maxLen]; omega) (by omega) (by simp; omega) (w.heap.size + 1) (by simp) ?_
       intro gg cap w8 hown8 hg8 hat8 _
       obtain ⟨⟨y8, hy8⟩, hf8, hc8, hb8, hF8⟩ := HNX.out w8 gg cap (((World.grownBy_alloc w (.cells #[.int .i64 (m : Int)] 3) _).trans (gr_drew _ _)).trans hg8) hown8 (by rcases hat8 with h | h; exact .inl h; right; omega)
       have HB8 := Lib.hid hb8
       have HF8 := Lib.hid hF8
       clear hown8 hg8 hat8 hb8 hF8))
   all_goals
     go_wp2_with fail
     go_meet
     exact ⟨HB8, HF8⟩
  case rest =>
   obtain ⟨HB1, HF1⟩ := hcut
   go_wp2_with fail
   have wk : IntKind.i64.wrap ((k : Int) + 1) = (k : Int) + 1 := IntWalk.i64_in _ (by omega)
   go_loopw [27] (fun i wr => ∃ (j : Nat), j ≤ m ∧ i = .int .i64 j ∧ Hid (Below base w wr) ∧ Hid (∃ d', Flat wr base gf d' (behind (k + 1) (LL.set k (L ++ [(m : Int)])) (lv 0 (ts.take j))) (D ++ dat 0 (ts.take j)))) (fun i _ => m - (intOf i).toNat)
   case atStart => exact ⟨0, Nat.zero_le _, rfl, HB1, Lib.hid ⟨d, by rw [List.take_zero, behind_nil HN1.out, dat_nil, List.append_nil]; exact HF1.out⟩⟩
   case round =>
    obtain ⟨j, hj, rfl, hbl, hfe⟩ := hrel
    obtain ⟨d', hfl⟩ := hfe.out
    have HFL := Lib.hid hfl
    clear hfl
    by_cases hlt : j < m
    · obtain ⟨t, x, ht, hx, hnd⟩ := All2.nth (j := j) HA.out (by have := HXL.out; have := HMT.out; omega)
      obtain ⟨g3, rfl, hcells⟩ := (prow1 (HX.out wr hbl.out)).2 (by omega)
      have hcell := hcells j x hx
      have HT := Lib.hid ht
      obtain rfl : x = .int .i64 ((show Nat from t : Nat) : Int) := hnd
      have HC := Lib.hid (HI.out t gf base (k + 1) S (.iface 110 (.int .i64 ((show Nat from t : Nat) : Int))) d' _ _ wr HFL.out rfl HSS.out (behind_len HN1.out (lv_len 0 _)) (by omega)
        (by rw [behind_step HN1.out ht]; exact HSH.out.part HN1.out) (by rw [List.append_assoc, ← dat_step ht, List.length_append]; have := dat_part (d := 0) (ts := ts) (j + 1); have := HDL.out; rw [List.length_append] at this; omega))
      rw [behind_step HN1.out ht, List.append_assoc, ← dat_step ht] at HC
      obtain ⟨z, hz⟩ : ∃ z : Int, ((show Nat from t : Nat) : Int) = z := ⟨_, rfl⟩
      rw [hz] at hcell HC
      rw [show ((k + 1 : Nat) : Int) = (k : Int) + 1 from by omega] at HC
      clear ht hx hcells hz
      go_wp2_with fail
      refine HC.out.mono ?_
      rintro e w5 ⟨rfl, hb5, d5, hf5⟩
      have HB5 := Lib.hid (hbl.out.trans hb5)
      have HF5 := Lib.hid hf5
      clear hb5 hf5
      go_wp2_with fail
      go_roundw
      case rel => exact ⟨j + 1, by omega, by go_num, HB5, Lib.hid ⟨d5, HF5.out⟩⟩
      case measure => simp [intOf]; omega
    · have hjn : j = m := by omega
      have HJ := Lib.hid hjn
      clear hjn
      go_wp2_with fail
      go_end0
      have e : ts.take j = ts := List.take_of_length_le (by have := HJ.out; have := HMT.out; omega)
      have h2 := HFL.out
      rw [e] at h2
      exact ⟨rfl, hbl.out, d', h2⟩
end

/- AppR -/
section
open Go.RowKit

theorem run_append_list (w : World) (base : Nat) (v : Value) (n : Nat) (xs : List Value) (hown : w.ownsRow base 3 1 v n xs) (A : Option Addr) (c : Nat) (M : List Int) (hA : Ints w A M) (hn : n + M.length ≤ 1099511627776) (hbase : base ≤ w.heap.size) :
    ∃ v' w', (Builtin.append_ #[23, 23] 23 #[v, .slice A M.length c]).run Try.prog w = .ok v' w' ∧ w'.ownsRow base 3 1 v' (n + M.length) (xs ++ M.map (Value.int .i64)) ∧ w.grownBy w' v.ownBlock ∧ (v'.ownBlock = v.ownBlock ∨ v'.ownBlock = some w.heap.size) := by
  obtain ⟨i0, hi0, hz0, hz1, hz2⟩ := info_parts infoJ
  cases A with
  | some a =>
    obtain ⟨v', w', h1, h2, h3, _, h5⟩ := run_append_own_at (P := Try.prog) w base 23 23 3 i0 (.int .i64 0) 1 8 Try.underlying23 hi0 hz0 hz1 hz2 rfl (by decide) v n xs hown a M.length c (M.map (Value.int .i64)) (by simp)
      (fun j u hj => by
        rw [List.getElem?_map] at hj
        cases hz : M[j]? with
        | none => rw [hz] at hj; cases hj
        | some z =>
          rw [hz] at hj
          cases hj
          obtain ⟨b, off, e, _, hc⟩ := hA (by have := (List.getElem?_eq_some_iff.1 hz).1; omega)
          cases e
          rw [addr_flat]
          exact hc j z hz)
      (fun u hu => by
        obtain ⟨z, _, rfl⟩ := List.mem_map.1 hu
        rfl) (by simp only [maxLen]; omega) (by omega) hbase
    exact ⟨v', w', h1, h2, h3, h5⟩
  | none =>
    have hM : M = [] := by
      cases M with
      | nil => rfl
      | cons z M =>
        obtain ⟨b, off, e, _⟩ := hA (by simp)
        cases e
    subst hM
    have hu := Try.underlying23
    refine ⟨v, w, ?_, by simpa using hown, ⟨rfl, rfl, rfl, Nat.le_refl _, fun _ _ _ => rfl⟩, .inl rfl⟩
    rcases hown.2 with ⟨rfl, rfl⟩ | ⟨g, cap, cur, rfl, _, _, hnc, _⟩
    · simp [Builtin.append_, run_underlying hu, sizeOf, typeInfo, hi0, Builtin.lenOf, Builtin.firstCells]
    · simp [Builtin.append_, run_underlying hu, sizeOf, typeInfo, hi0, Builtin.lenOf, Builtin.firstCells, hnc, storeCells]
theorem step_append_run {P : Program} {ops : Array Oper} {o : Oper} {a : Act} {w : World} {K : Act → World → Prop} {Q : Exit → Act → World → Prop} {E : Prop} (hgd : o.guard = none) (s x : Operand) (t : TypeId) (ho : o.op = Op.call { callee := Callee.builtin Builtin.append, args := #[s, x], argTypes := #[t, t] })
    (v u : Value) (hs : a.eval s = v) (hx : a.eval x = u) (v' : Value) (w' : World) (hrun : (Builtin.append_ #[t, t] o.type #[v, u]).run P w = .ok v' w') (h : K (a.put o.dst v') w') :
    if Region.wanted o (yielded ops a.tmps) = true then Oper.wp P o a w K Q else E := by
  have hw : Region.wanted o (yielded ops a.tmps) = true := by simp [Region.wanted, hgd]
  rw [if_pos hw]
  unfold Oper.wp
  simp [execOp, ho, resolve, invoke, builtin, hs, hx, hrun, Result.andThen]
  exact h
end

/- Add -/
section
open Go.RowKit

/-- A list more at a level. -/
theorem LaidAt.levelM {w : World} {base g c i : Nat} {d : Value} {LL : List (List Int)} {D L : List Int} {M : List Int} (h : LaidAt w base g c d LL D) (hL : LL[i]? = some L) :
    ∃ v, w.cell? ⟨g, i, none⟩ = some v ∧ w.frozen? ⟨g, i, none⟩ = false ∧ w.ownsRow base 3 1 v L.length (L.map (Value.int .i64)) ∧ ∀ (w1 : World) (v' : Value), (w.grownBy w1 v.ownBlock → w1.ownsRow base 3 1 v' (L.length + M.length) (L.map (Value.int .i64) ++ M.map (Value.int .i64)) → (∀ b, v'.ownBlock = some b → v.ownBlock = some b ∨ w.heap.size ≤ b) →
      (∃ y, w1.cell? ⟨g, i, none⟩ = some y) ∧ w1.frozen? ⟨g, i, none⟩ = false ∧ LaidAt (w1.setCell ⟨g, i, none⟩ v') base g c d (LL.set i (L ++ M)) D) := by
  obtain ⟨vs, ho, hr⟩ := h
  have hi : i < LL.length := (List.getElem?_eq_some_iff.1 hL).1
  have hlen : vs.length = LL.length := by have := ho.1; omega
  have hiv : i < vs.length := by omega
  have hcell := (ho.cellAt i (by omega)).trans (List.getElem?_eq_getElem hiv)
  have hvs : vs[i]? = some vs[i] := List.getElem?_eq_getElem hiv
  have hrow := hr.2.1 i vs[i] L (by rw [List.getElem?_append_left hiv]; exact hvs) (by rw [List.getElem?_append_left hi]; exact hL)
  refine ⟨vs[i], hcell, ho.frozenAt i, hrow, fun w1 v' hg hw hat => ?_⟩
  have hne : some g ≠ (vs[i]).ownBlock := fun e => by
    rcases hrow.2 with ⟨hv, _⟩ | ⟨b, cap, cur, hv, _, hb, _⟩
    · rw [hv] at e; cases e
    · rw [hv] at e
      simp only [Value.ownBlock, Option.some.injEq] at e
      subst e
      obtain ⟨cs, hcs⟩ := own_cells ho
      rw [hb] at hcs
      cases hcs
  have ho1 : w1.ownsRow base 23 1 (.slice (some ⟨g, 0, none⟩) LL.length c) LL.length vs := own_keep ho (fun b hb => by cases hb; exact hg.block g (ho.lt g rfl).2 hne)
  have hst := ho1.stored i v'
  obtain ⟨cs1, hcs1⟩ := own_cells ho1
  have hr1 := (hr.step (i := i) (L' := L ++ M) (by rw [List.getElem?_append_left hiv]; exact hvs) hg (by rw [List.map_append, List.length_append]; exact hw) hat).other hcs1 (by decide) hst.2
  rw [List.set_append_left _ _ hiv, List.set_append_left _ _ hi] at hr1
  exact ⟨⟨_, hg.cell hcell hne⟩, ho1.frozenAt i, vs.set i v', by rw [List.length_set]; exact hst.1, hr1⟩
/-- A number more behind all numbers. -/
theorem LaidAt.dataM {w : World} {base g c : Nat} {d : Value} {LL : List (List Int)} {D : List Int} {M : List Int} (h : LaidAt w base g c d LL D) :
    w.ownsRow base 3 1 d D.length (D.map (Value.int .i64)) ∧ ∀ (w1 : World) (d' : Value), (w.grownBy w1 d.ownBlock → w1.ownsRow base 3 1 d' (D.length + M.length) (D.map (Value.int .i64) ++ M.map (Value.int .i64)) → (∀ b, d'.ownBlock = some b → d.ownBlock = some b ∨ w.heap.size ≤ b) → LaidAt w1 base g c d' LL (D ++ M)) := by
  obtain ⟨vs, ho, hr⟩ := h
  have hlen : vs.length = LL.length := by have := ho.1; omega
  have hd : (vs ++ [d])[vs.length]? = some d := by simp
  have hD : (LL ++ [D])[vs.length]? = some D := by rw [hlen]; simp
  have hrow := hr.2.1 vs.length d D hd hD
  refine ⟨hrow, fun w1 d' hg hw hat => ⟨vs, own_keep ho (fun b hb => by
    cases hb
    refine hg.block g (ho.lt g rfl).2 (fun e => ?_)
    rcases hrow.2 with ⟨hv, _⟩ | ⟨b, cap, cur, hv, _, hb, _⟩
    · rw [hv] at e; cases e
    · rw [hv] at e
      simp only [Value.ownBlock, Option.some.injEq] at e
      subst e
      obtain ⟨cs, hcs⟩ := own_cells ho
      rw [hb] at hcs
      cases hcs), ?_⟩⟩
  have hr1 := hr.step (i := vs.length) (L' := D ++ M) hd hg (by rw [List.map_append, List.length_append]; exact hw) hat
  rw [List.set_append_right _ _ (Nat.le_refl _), List.set_append_right _ _ (by omega)] at hr1
  simpa [hlen] using hr1
theorem Flat.imp {w w' : World} {base gf : Nat} {d : Value} {LL : List (List Int)} {D : List Int} (h : Flat w base gf d LL D) (hg : w.grownBy w' none) : Flat w' base gf d LL D := by
  obtain ⟨g, c, hp, hl, hb, hgf⟩ := h
  exact ⟨g, c, hp.grown hg (by simp), hl.grown hg, Nat.le_trans hb hg.size, hgf⟩
theorem lenM_step {w : World} {base gf k : Nat} {M : List Int} {d : Value} {LL : List (List Int)} {D L : List Int} (h : Flat w base gf d LL D) (hL : LL[k]? = some L) :
    ∃ g c A e, Pr w gf 70 d (.slice (some ⟨g, 0, none⟩) LL.length c) ∧ k < LL.length ∧ w.cell? ⟨g, k, none⟩ = some (.slice A L.length e) ∧ w.frozen? ⟨g, k, none⟩ = false ∧ base ≤ w.heap.size ∧
      w.ownsRow base 3 1 (.slice A L.length e) L.length (L.map (Value.int .i64)) ∧
      ∀ (w1 : World) (v' : Value), w.grownBy w1 (Value.slice A L.length e).ownBlock → w1.ownsRow base 3 1 v' (L.length + M.length) (L.map (Value.int .i64) ++ M.map (Value.int .i64)) → (∀ b, v'.ownBlock = some b → (Value.slice A L.length e).ownBlock = some b ∨ w.heap.size ≤ b) →
        (∃ cs, w1.heap[g]? = some (.cells cs 23 (0, 0))) ∧ (∃ y, w1.cell? ⟨g, k, none⟩ = some y) ∧ w1.frozen? ⟨g, k, none⟩ = false ∧ Pr w1 gf 70 d (.slice (some ⟨g, 0, none⟩) LL.length c) ∧
        Below base w (w1.setCell ⟨g, k, none⟩ v') ∧ Flat (w1.setCell ⟨g, k, none⟩ v') base gf d (LL.set k (L ++ M)) D := by
  obtain ⟨g, c, hp, h, hb, hgf⟩ := h
  obtain ⟨v, hc, hf, ho, hnx⟩ := h.levelM (M := M) hL
  have hk : k < LL.length := (List.getElem?_eq_some_iff.1 hL).1
  obtain ⟨A, m, e, rfl⟩ := own_form ho
  obtain rfl : m = L.length := own_len2 ho
  refine ⟨g, c, A, e, hp, hk, hc, hf, hb, ho, fun w1 v' hg hw hat => ?_⟩
  obtain ⟨hy, hf1, hl⟩ := hnx w1 v' hg hw hat
  have hp1 := hp.row ho (by decide) hg
  obtain ⟨vs, hov, _⟩ := h
  have hgb := (hov.lt g rfl).1
  have hs := gr_set w1 g k v'
  have hne : some gf ≠ some g := fun e2 => by
    cases e2
    obtain ⟨cs, hcs⟩ := own_cells hov
    unfold Pr at hp
    rw [hp] at hcs
    cases hcs
  obtain ⟨cs, hcs⟩ := own_cells hov
  have hgv : some g ≠ (Value.slice A L.length e).ownBlock := fun e2 => absurd (own_typ hov ho rfl e2.symm) (by decide)
  refine ⟨⟨cs, (hg.block g (hov.lt g rfl).2 hgv).trans hcs⟩, hy, hf1, hp1, (below_row ho hb hg).trans (below_set hgb), g, c, ?_, hl, Nat.le_trans hb (Nat.le_trans hg.size hs.size), hgf⟩
  have := hp1.grown hs hne
  rwa [List.length_set]

/-- Levels, the first j of which have more behind them. -/
def addT (j : Nat) (LL NL : List (List Int)) : List (List Int) := addL (LL.take j) (NL.take j) ++ LL.drop j
theorem addT_zero (LL NL : List (List Int)) : addT 0 LL NL = LL := by simp [addT, addL]
theorem addT_all {j : Nat} {LL NL : List (List Int)} (h : LL.length = j) (h2 : NL.length = j) : addT j LL NL = addL LL NL := by
  unfold addT
  rw [List.take_of_length_le (by omega), List.take_of_length_le (by omega), List.drop_of_length_le (by omega), List.append_nil]
theorem addL_len2 {A B : List (List Int)} (h : A.length = B.length) : (addL A B).length = A.length := by simp [addL, h]
theorem addT_len {j : Nat} {LL NL : List (List Int)} (h : j ≤ LL.length) (h2 : LL.length = NL.length) : (addT j LL NL).length = LL.length := by
  unfold addT
  rw [List.length_append, addL_len2 (by simp; omega), List.length_take, List.length_drop]
  omega
theorem addT_at {j : Nat} {LL NL : List (List Int)} {L : List Int} (h2 : LL.length = NL.length) (hL : LL[j]? = some L) : (addT j LL NL)[j]? = some L := by
  have hj := (List.getElem?_eq_some_iff.1 hL).1
  unfold addT
  have h1 : (addL (LL.take j) (NL.take j)).length = j := by rw [addL_len2 (by simp; omega), List.length_take]; omega
  rw [List.getElem?_append_right (by omega), h1, Nat.sub_self, List.getElem?_drop, Nat.add_zero]
  exact hL
theorem addT_step {j : Nat} {LL NL : List (List Int)} {L M : List Int} (h2 : LL.length = NL.length) (hL : LL[j]? = some L) (hM : NL[j]? = some M) : (addT j LL NL).set j (L ++ M) = addT (j + 1) LL NL := by
  have hj := (List.getElem?_eq_some_iff.1 hL).1
  have h1 : (addL (LL.take j) (NL.take j)).length = j := by rw [addL_len2 (by simp; omega), List.length_take]; omega
  have hd : LL.drop j = L :: LL.drop (j + 1) := by
    obtain ⟨h3, h4⟩ := List.getElem?_eq_some_iff.1 hL
    rw [List.drop_eq_getElem_cons h3, h4]
  unfold addT
  rw [hd, List.set_append_right _ _ (by omega), h1, Nat.sub_self, List.take_add_one, List.take_add_one, hL, hM]
  simp only [List.set_cons_zero, Option.toList_some, addL]
  rw [List.zipWith_append (by simp; omega)]
  simp

set_option maxRecDepth 100000 in
set_option maxHeartbeats 4000000 in
theorem add_any (d : Nat) (t : T d) (gf base : Nat) (A P : Option Addr) (cA cP : Nat) (d0 : Value) (LL : List (List Int)) (D : List Int) (w : World) (h : Flat w base gf d0 LL D) (hlen : LL.length = d) (hd : d ≤ 3)
    (hrd : ∀ w', Below base w w' → Ints w' A (dat d [t]) ∧ Rws w' P (lv d [t])) (hsz : ∀ (j : Nat) (L M : List Int), LL[j]? = some L → (lv d [t])[j]? = some M → L.length + M.length ≤ 1099511627776) (hdl : D.length + (dat d [t]).length ≤ 1099511627776) :
    Calls Try.prog 57 #[.pointer (some ⟨gf, 0, none⟩), .agg #[.slice A (dat d [t]).length cA, .slice P d cP]] w fun e w' => e = .returned (.tuple #[]) ∧ Below base w w' ∧ ∃ d', Flat w' base gf d' (addL LL (lv d [t])) (D ++ dat d [t]) := by
  have hb : base ≤ w.heap.size := by obtain ⟨_, _, _, _, hb, _⟩ := h; exact hb
  obtain ⟨m, hm⟩ : ∃ m, (dat d [t]).length = m := ⟨_, rfl⟩
  have HM := Lib.hid hm
  rw [hm] at hdl ⊢
  have hga := World.grownBy_alloc w (.cells #[.slice A m cA, .slice P d cP] 70) none
  have HF := Lib.hid (h.imp hga)
  have HB := Lib.hid (Pr.new w 70 (.slice A m cA) (.slice P d cP))
  have HBL := Lib.hid (show Below base w (w.alloc (.cells #[.slice A m cA, .slice P d cP] 70)) from ⟨hga.os, hga.tape, hga.output, hga.size, fun k hk => hga.block k (by omega) (by simp)⟩)
  have HR := Lib.hid hrd
  have HS := Lib.hid hsz
  have HL := Lib.hid hlen
  clear h hga hrd hsz hlen hm
  have p1 := HB.out.c1
  go_enter Try.func57, Try.ntmps57
  go_wp2_with fail
  generalize w.alloc (.cells #[.slice A m cA, .slice P d cP] 70) = w1 at HF HB HBL p1 ⊢
  clear p1
  have HLL := Lib.hid (show LL.length = (lv d [t]).length by rw [lv_len]; exact HL.out)
  go_loopw [9] (fun i wr => ∃ (j : Nat), j ≤ d ∧ i = .int .i64 j ∧ Hid (Below base w wr) ∧ Hid (Flat wr base gf d0 (addT j LL (lv d [t])) D) ∧ Hid (Pr wr w.heap.size 70 (.slice A m cA) (.slice P d cP))) (fun i _ => d - (intOf i).toNat)
  case atStart => exact ⟨0, Nat.zero_le _, rfl, HBL, Lib.hid (by rw [addT_zero]; exact HF.out), HB⟩
  case round =>
    clear HF HB HBL
    obtain ⟨j, hj, rfl, hbl, hfl, hbx⟩ := hrel
    by_cases hlt : j < d
    · obtain ⟨L, hL⟩ : ∃ L, LL[j]? = some L := ⟨_, List.getElem?_eq_getElem (by have := HL.out; omega)⟩
      obtain ⟨M, hM⟩ : ∃ M, (lv d [t])[j]? = some M := ⟨_, List.getElem?_eq_getElem (by rw [lv_len]; omega)⟩
      obtain ⟨b, off, B, dd, rfl, hcell, hcap, hi⟩ := (HR.out wr hbl.out).2.at_ hM
      obtain ⟨g, c, A2, e2, hp, hk, hc, hf, hb2, ho, hnx⟩ := lenM_step (M := M) hfl.out (addT_at HLL.out hL)
      have hsz := HS.out j L M hL hM
      have htl : (addT j LL (lv d [t])).length = d := by rw [addT_len (by have := HL.out; omega) HLL.out]; exact HL.out
      rw [htl] at hp hk hnx
      rw [addT_step HLL.out hL hM] at hnx
      have hgd : wr.grownBy wr.drew none := ⟨rfl, rfl, rfl, Nat.le_refl _, fun _ _ _ => rfl⟩
      obtain ⟨v2, w2, hrun, ho2, hg2, hat2⟩ := run_append_list wr.drew base _ L.length _ (own_keep ho (fun q hq => hgd.block q (ho.lt q hq).2 (by simp))) B dd M (hi.grown hgd (by simp)) hsz hb2
      have hgu := (gr_any hgd (Value.slice A2 L.length e2).ownBlock).trans hg2
      obtain ⟨A8, m8, c8v, rfl⟩ := own_form ho2
      obtain ⟨⟨cs8, hcs8⟩, ⟨y8, hy8⟩, hf8, hp8, hb8, hF8⟩ := hnx w2 _ hgu ho2 (fun q hq => by
        rcases hat2 with h | h
        · left; rw [← h]; exact hq
        · right; rw [hq] at h; cases h; exact Nat.le_refl _)
      have hbx8 := hbx.out.row ho (by decide) hgu
      have HX8 := Lib.hid (hbx8.grown (gr_set w2 g j (.slice A8 m8 c8v)) (fun e => by
        cases e
        unfold Pr at hbx8
        rw [hbx8] at hcs8
        cases hcs8))
      have HB8 := Lib.hid (hbl.out.trans hb8)
      have HF8 := Lib.hid hF8
      obtain ⟨q, hq⟩ : ∃ q, M.length = q := ⟨_, rfl⟩
      obtain ⟨r, hr⟩ : ∃ r, L.length = r := ⟨_, rfl⟩
      rw [hq] at hcell hrun
      rw [hr] at hc hrun
      have c0 := hp.c1
      have c8 := hp8.c1
      clear hcap hi hnx ho hsz ho2 hg2 hat2 hgu hbx8 hcs8 hb8 hF8 hp hp8 hL hM htl hgd
      go_wp2_with fail
      go_region_law (refine step_append_run (by rfl) _ _ _ (by rfl) _ _ (by rfl) (by rfl) (.slice A8 m8 c8v) w2 hrun ?_)
      all_goals
        go_wp2_with fail
        go_roundw
        case rel => exact ⟨j + 1, by omega, by go_num, HB8, HF8, HX8⟩
        case measure => simp [intOf]; omega
    · have hjn : j = d := by omega
      have HJ := Lib.hid hjn
      have hfl2 := hfl.out
      rw [hjn, addT_all HL.out (lv_len d [t])] at hfl2
      obtain ⟨g, c, hp, hla, hb2, hgf⟩ := hfl2
      obtain ⟨hown, hnx⟩ := hla.dataM (M := dat d [t])
      obtain ⟨A3, m3, e3, rfl⟩ := own_form hown
      obtain rfl : m3 = D.length := own_len2 hown
      have hi := (HR.out wr hbl.out).1
      have hgd : wr.grownBy wr.drew none := ⟨rfl, rfl, rfl, Nat.le_refl _, fun _ _ _ => rfl⟩
      obtain ⟨v2, w2, hrun, ho2, hg2, hat2⟩ := run_append_list wr.drew base _ D.length _ (own_keep hown (fun q hq => hgd.block q (hown.lt q hq).2 (by simp))) A cA (dat d [t]) (hi.grown hgd (by simp)) (by rw [HM.out]; exact hdl) hb2
      have hgu := (gr_any hgd (Value.slice A3 D.length e3).ownBlock).trans hg2
      obtain ⟨A8, m8, c8v, rfl⟩ := own_form ho2
      have hl8 := hnx w2 _ hgu ho2 (fun q hq => by
        rcases hat2 with h | h
        · left; rw [← h]; exact hq
        · right; rw [hq] at h; cases h; exact Nat.le_refl _)
      have hp8 := hp.row hown (by decide) hgu
      have hs9 := gr_set w2 gf 0 (.slice A8 m8 c8v)
      have HF8 := Lib.hid (show Flat (w2.setCell ⟨gf, 0, none⟩ (.slice A8 m8 c8v)) base gf (.slice A8 m8 c8v) (addL LL (lv d [t])) (D ++ dat d [t]) from ⟨g, c, hp8.set0 _, hl8.other hp8 (by decide) (by decide) hs9, Nat.le_trans hb2 (Nat.le_trans hgu.size hs9.size), hgf⟩)
      have HB8 := Lib.hid (hbl.out.trans ((below_row hown hb2 hgu).trans (below_set (w := w2) (i := 0) (u := .slice A8 m8 c8v) hgf)))
      have c0 := hp.c0
      have c8 := hp8.c0
      have f8 := hp8.f 0
      have x0 := hbx.out.c0
      have x8 := (hbx.out.row hown (by decide) hgu).c0
      rw [HM.out] at hrun
      obtain ⟨r, hr⟩ : ∃ r, D.length = r := ⟨_, rfl⟩
      rw [hr] at hrun c0
      clear hjn hown hnx hi hgd ho2 hg2 hat2 hgu hl8 hp8 hs9 hp hla hfl hbx
      go_wp2_with fail
      go_region_law (refine step_append_run (by rfl) _ _ _ (by rfl) _ _ (by rfl) (by rfl) (.slice A8 m8 c8v) w2 hrun ?_)
      all_goals
        go_end0
        exact ⟨rfl, HB8.out, _, HF8.out⟩
end

/- Fod -/
section
open Go.RowKit

set_option maxHeartbeats 400000 in
theorem fod_any (d : Nat) (w : World) (hd : d ≤ 10) :
    Calls Try.prog 40 #[.int .i64 (d : Int)] w fun e w' => ∃ g, e = .returned (.agg #[.slice none 0 0, .slice (some ⟨g, 0, none⟩) d d]) ∧ w.grownBy w' none ∧ g < w'.heap.size ∧ w'.ownsRow w.heap.size 23 1 (.slice (some ⟨g, 0, none⟩) d d) d (List.replicate d (.slice none 0 0)) := by
  obtain ⟨i0, hi0, hz0, hz1, hz2⟩ := info_parts infoL
  have hmk : ∀ u : World, (Instr.makeSlice 22 (.int .i64 (d : Int)) (.int .i64 (d : Int))).run Try.prog u =
      .ok (.slice (some ⟨u.heap.size, 0, none⟩) d d) (u.alloc (.cells (madeCells #[.slice none 0 0] d) 23)) := fun u => by
    have h := run_make (P := Try.prog) u 22 23 i0 (.slice none 0 0) Try.underlying22 hi0 hz0 .i64 .i64 (d : Int) (d : Int) (by omega) (Int.le_refl _) (by rw [hz2]; omega) (by omega)
    simpa [hz1, Value.cells] using h
  have hcs : (madeCells #[.slice none 0 0] d).toList = List.replicate d (.slice none 0 0) := by
    refine List.eq_replicate_iff.2 ⟨by simp [madeCells], fun b hb => ?_⟩
    simp only [madeCells, Array.toList_map, List.mem_map] at hb
    obtain ⟨i, _, rfl⟩ := hb
    have : i % (#[Value.slice none 0 0] : Array Value).size = 0 := by simp [Nat.mod_one]
    rw [this]
    rfl
  have HCS := Lib.hid hcs
  clear hcs
  go_enter Try.func40, Try.ntmps40
  go_wp2_with fail
  have P := (Pr.new w 70 (.slice none 0 0) (.slice (some ⟨w.heap.size + 1, 0, none⟩) d d)).alloc (.cells (madeCells #[.slice none 0 0] d) 23)
  have r0 := P.c0
  have r1 := P.c1
  refine bodyPost_ret (v := .agg #[.slice none 0 0, .slice (some ⟨w.heap.size + 1, 0, none⟩) d d]) (by simp [results, Try.results40, go_sem, r0, r1]) rfl ?_
  have ho := World.ownsRow_lit (base := w.heap.size) (e := 23) (size := 1) (w.alloc (.cells #[.slice none 0 0, .slice (some ⟨w.heap.size + 1, 0, none⟩) d d] 70)) (madeCells #[.slice none 0 0] d) d (by simp) (by simp only [maxLen]; omega) (by simp [madeCells])
  rw [HCS.out, sz_alloc] at ho
  exact ⟨w.heap.size + 1, rfl, (World.grownBy_alloc _ _ _).trans (World.grownBy_alloc _ _ _), by simp, ho⟩
end

/- PutS -/
section
open Go.RowKit

theorem tb00 (v : Value) (xT : TypeId) (w : World) : (Instr.typeAssert (.iface 110 v) xT 110 true).run Try.prog w = .ok (.tuple #[v, .bool true]) w := by
  simp [Instr.typeAssert, run_underlying Try.underlying110, go_sem, Result.andThen]
theorem tb10 (v : Value) (xT : TypeId) (w : World) : (Instr.typeAssert (.iface 112 v) xT 110 true).run Try.prog w = .ok (.tuple #[.int .i64 0, .bool false]) w := by
  simp [Instr.typeAssert, run_underlying Try.underlying110, go_sem, Result.andThen]
theorem tb11 (v : Value) (xT : TypeId) (w : World) : (Instr.typeAssert (.iface 112 v) xT 112 true).run Try.prog w = .ok (.tuple #[v, .bool true]) w := by
  simp [Instr.typeAssert, run_underlying Try.underlying112, go_sem, Result.andThen]
theorem tb20 (v : Value) (xT : TypeId) (w : World) : (Instr.typeAssert (.iface 117 v) xT 110 true).run Try.prog w = .ok (.tuple #[.int .i64 0, .bool false]) w := by
  simp [Instr.typeAssert, run_underlying Try.underlying110, go_sem, Result.andThen]
theorem tb21 (v : Value) (xT : TypeId) (w : World) : (Instr.typeAssert (.iface 117 v) xT 112 true).run Try.prog w = .ok (.tuple #[.pointer none, .bool false]) w := by
  simp [Instr.typeAssert, run_underlying Try.underlying112, go_sem, Result.andThen]
theorem tb22 (v : Value) (xT : TypeId) (w : World) : (Instr.typeAssert (.iface 117 v) xT 117 true).run Try.prog w = .ok (.tuple #[v, .bool true]) w := by
  simp [Instr.typeAssert, run_underlying Try.underlying117, go_sem, Result.andThen]

set_option maxHeartbeats 400000 in
theorem lay0 : LayP 0 := by
  intro t gf base k S v d0 LL D w h hr hS hlen hk hsh hdl
  obtain rfl : v = .iface 110 (.int .i64 ((show Nat from t : Nat) : Int)) := hr
  have hll : LL.length = k := by omega
  have e1 : behind k LL (lv 0 [t]) = LL := by
    rw [behind, List.take_of_length_le (by omega), List.drop_of_length_le (by omega)]
    simp [addL]
  obtain ⟨z, hz⟩ : ∃ z : Int, ((show Nat from t : Nat) : Int) = z := ⟨_, rfl⟩
  have e2 : dat 0 [t] = [z] := by rw [← hz]; rfl
  rw [e2, List.length_append] at hdl
  have HP := Lib.hid (fun w h => put_any gf base z d0 LL D w h (by omega))
  have H := Lib.hid h
  rw [e1, e2, hz]
  have hta := tb00
  clear h hS hsh hdl e1 e2 hz hlen hll
  go_enter Try.func41, Try.ntmps41
  go_wp2_with fail
  refine (HP.out _ H.out).mono ?_
  rintro e w1 ⟨rfl, hb1, d', hf1⟩
  have HB := Lib.hid hb1
  have HF := Lib.hid hf1
  clear hb1 hf1
  go_wp2_with fail
  go_end0
  exact ⟨rfl, HB.out, d', HF.out⟩

set_option maxHeartbeats 1000000 in
theorem lay1 : LayP 1 := by
  intro t gf base k S v d0 LL D w h hr hS hlen hk hsh hdl
  obtain ⟨b, sv, xs, rfl, hb, hh, ho, hxs, ha⟩ := hr
  obtain ⟨A, m, c, rfl⟩ := own_form ho
  have hts : (show List (T 0) from t).length ≤ 1000000 := by
    rw [List.length_append] at hdl
    have e : dat 1 [t] = dat 0 (prt t) := dat_one 0 t
    rw [e] at hdl
    have e2 : (dat 0 (prt t)).length = (show List (T 0) from t).length := List.length_map _
    omega
  have HQ := Lib.hid (layq0 lay0 (show List (T 0) from t) gf base k S A m c xs d0 LL D w h ho hxs ha hS hlen hk hsh hdl hts)
  have hc : w.cell? ⟨b, 0, none⟩ = some (.slice A m c) := by simp [World.cell?, hh]
  have hta := tb10
  have htb := tb11
  simp only [ptrT]
  clear h hb hh ho hxs ha hS hlen hsh hdl hts
  go_enter Try.func41, Try.ntmps41
  go_wp2_with fail
  refine HQ.out.mono ?_
  rintro e w1 ⟨rfl, hb1, d', hf1⟩
  have HB := Lib.hid hb1
  have HF := Lib.hid hf1
  clear hb1 hf1 HQ
  go_wp2_with fail
  go_end0
  exact ⟨rfl, HB.out, d', HF.out⟩

set_option maxRecDepth 100000 in
set_option maxHeartbeats 4000000 in
theorem layqS (dd : Nat) (ih : LayP (dd + 1)) (ts : List (T (dd + 1))) (gf base k : Nat) (S : Nat → Prop) (A : Option Addr) (m e : Nat) (xs : List Value) (d : Value) (LL : List (List Int)) (D : List Int) (w : World) (h : Flat w base gf d LL D)
    (hx : w.ownsRow 0 (elT (dd + 1)) 1 (.slice A m e) xs.length xs) (hxs : ∀ g, (Value.slice A m e).ownBlock = some g → S g) (ha : All2 (Nd w S (dd + 1)) ts xs) (hS : ∀ b, S b → b < base) (hlen : LL.length = k + (dd + 1 + 1)) (hk10 : k + (dd + 1 + 1) ≤ 10)
    (hsh : Short (behind k LL (lv (dd + 1 + 1) [(show T (dd + 1 + 1) from ts)]))) (hdl : (D ++ dat (dd + 1 + 1) [(show T (dd + 1 + 1) from ts)]).length ≤ 1000000) (hts : ts.length ≤ 1000000) :
    Calls Try.prog 79 #[.pointer (some ⟨gf, 0, none⟩), .slice A m e, .int .i64 k] w fun e w' => e = .returned (.tuple #[]) ∧ Below base w w' ∧ ∃ d', Flat w' base gf d' (behind k LL (lv (dd + 1 + 1) [(show T (dd + 1 + 1) from ts)])) (D ++ dat (dd + 1 + 1) [(show T (dd + 1 + 1) from ts)]) := by
  obtain ⟨L, hL⟩ : ∃ L, LL[k]? = some L := ⟨_, List.getElem?_eq_getElem (by omega)⟩
  have hl : L.length ≤ 1000000 := (hsh.of_behind hlen (lv_len _ _)).level hL
  have hmt : ts.length = m := by rw [(prow1 hx).1]; exact All2.length _ _ ha
  have hn1 : (LL.set k (L ++ [(m : Int)])).length = k + 1 + (dd + 1) := by rw [List.length_set]; omega
  have hbe : behind k LL (lv (dd + 1 + 1) [(show T (dd + 1 + 1) from ts)]) = behind (k + 1) (LL.set k (L ++ [(m : Int)])) (lv (dd + 1) ts) := by
    rw [← hmt]; exact behind_node _ hlen hL
  have hde : dat (dd + 1 + 1) [(show T (dd + 1 + 1) from ts)] = dat (dd + 1) ts := dat_one (dd + 1) _
  rw [hbe] at hsh
  rw [hde] at hdl
  rw [hbe, hde]
  have HSH := Lib.hid hsh
  have HDL := Lib.hid hdl
  have HN1 := Lib.hid hn1
  have HMT := Lib.hid hmt
  have HX := Lib.hid (fun (w' : World) (hb : Below base w w') => own_below hx (fun g hg => hS g (hxs g hg)) hb)
  have HA := Lib.hid ha
  have HSS := Lib.hid hS
  have HI := Lib.hid ih
  have HXL := Lib.hid (All2.length _ _ ha)
  have hm6 : m ≤ 1000000 := by omega
  clear hbe hde hsh hdl hn1 hmt hx hxs ha hS ih hlen
  obtain ⟨i0, hi0, hz0, hz1, hz2⟩ := info_parts infoJ
  obtain ⟨g, c, A2, e2, hp, hk, hc, hf, hb, ho, hnx⟩ := len_step (z := (m : Int)) h hL
  have c1 := hp.c1
  have HNX := Lib.hid hnx
  have HO := Lib.hid ho
  obtain ⟨q, hq⟩ : ∃ q, L.length = q := ⟨_, rfl⟩
  obtain ⟨n, hn⟩ : ∃ n, LL.length = n := ⟨_, rfl⟩
  rw [hn] at c1 hk
  rw [hq] at hc hl
  rw [hq, hn] at HNX
  rw [hq] at HO
  have own7 := (HO.out.alloc (.cells #[.int .i64 (m : Int)] 3)).kept (gr_drew _ none) (by cases hv : (Value.slice A2 q e2).ownBlock <;> simp)
  have hc2 := (World.grownBy_alloc w (.cells #[.int .i64 (m : Int)] 3) none).cell hc (by simp)
  have hc3 : ((w.alloc (.cells #[.int .i64 (m : Int)] 3)).drew).cell? ⟨g, k, none⟩ = _ := hc2
  have c2 := (World.grownBy_alloc w (.cells #[.int .i64 (m : Int)] 3) none).cell c1 (by simp)
  have c3 : ((w.alloc (.cells #[.int .i64 (m : Int)] 3)).drew).cell? ⟨gf, 1, none⟩ = _ := c2
  clear hL h hp hnx ho hq hn
  go_enter Try.func79, Try.ntmps79
  go_wp2_with fail
  go_cut [] from 8 to 24 (fun wx => Hid (Below base w wx) ∧ Hid (Flat wx base gf d (LL.set k (L ++ [(m : Int)])) D))
  case first =>
   go_region_law (first
    | (refine step_append_lies _ (by rfl) _ _ _ (by rfl) base 3 i0 _ 1 8 Try.underlying23 hi0 hz0 hz1 hz2 rfl (by omega) (.slice A2 q e2) q (L.map (Value.int .i64)) (by rfl) own7 ⟨w.heap.size, 0, none⟩ 1 1 [.int .i64 (m : Int)] (by rfl) (by rfl) (World.news_of_block (cs := #[.int .i64 (m : Int)]) (t := 3) (fr := (0, 0)) (heap_alloc_new _ _)) (by simp [Value.oneCell']) (by omega) (by simp only [maxLen]; omega) (by omega) (by simp; omega) (w.heap.size + 1) (by simp) ?_
       intro gg cap w8 hown8 hg8 hat8 _
       obtain ⟨⟨y8, hy8⟩, hf8, hc8, hb8, hF8⟩ := HNX.out w8 gg cap (((World.grownBy_alloc w (.cells #[.int .i64 (m : Int)] 3) _).trans (gr_drew _ _)).trans hg8) hown8 (by rcases hat8 with h | h; exact .inl h; right; omega)
       have HB8 := Lib.hid hb8
       have HF8 := Lib.hid hF8
       clear hown8 hg8 hat8 hb8 hF8))
   all_goals
     go_wp2_with fail
     go_meet
     exact ⟨HB8, HF8⟩
  case rest =>
   obtain ⟨HB1, HF1⟩ := hcut
   go_wp2_with fail
   have wk : IntKind.i64.wrap ((k : Int) + 1) = (k : Int) + 1 := IntWalk.i64_in _ (by omega)
   go_loopw [27] (fun i wr => ∃ (j : Nat), j ≤ m ∧ i = .int .i64 j ∧ Hid (Below base w wr) ∧ Hid (∃ d', Flat wr base gf d' (behind (k + 1) (LL.set k (L ++ [(m : Int)])) (lv (dd + 1) (ts.take j))) (D ++ dat (dd + 1) (ts.take j)))) (fun i _ => m - (intOf i).toNat)
   case atStart => exact ⟨0, Nat.zero_le _, rfl, HB1, Lib.hid ⟨d, by rw [List.take_zero, behind_nil HN1.out, dat_nil, List.append_nil]; exact HF1.out⟩⟩
   case round =>
    obtain ⟨j, hj, rfl, hbl, hfe⟩ := hrel
    obtain ⟨d', hfl⟩ := hfe.out
    have HFL := Lib.hid hfl
    clear hfl
    by_cases hlt : j < m
    · obtain ⟨t, x, ht, hx, hnd⟩ := All2.nth (j := j) HA.out (by have := HXL.out; have := HMT.out; omega)
      obtain ⟨g3, rfl, hcells⟩ := (prow1 (HX.out wr hbl.out)).2 (by omega)
      have hcell := hcells j x hx
      have HT := Lib.hid ht
      have HND := Lib.hid (RepI.below (d := dd + 1) (t := t) hnd HSS.out hbl.out)
      obtain ⟨ty, pv, rfl⟩ := RepI.iface (d := dd + 1) (t := t) hnd
      clear hnd
      have HC := Lib.hid (HI.out t gf base (k + 1) S (.iface ty pv) d' _ _ wr HFL.out HND.out HSS.out (behind_len HN1.out (lv_len (dd + 1) _)) (by omega)
        (by rw [behind_step HN1.out ht]; exact HSH.out.part HN1.out) (by rw [List.append_assoc, ← dat_step ht, List.length_append]; have := dat_part (d := dd + 1) (ts := ts) (j + 1); have := HDL.out; rw [List.length_append] at this; omega))
      rw [behind_step HN1.out ht, List.append_assoc, ← dat_step ht] at HC
      rw [show ((k + 1 : Nat) : Int) = (k : Int) + 1 from by omega] at HC
      clear ht hx hcells
      go_wp2_with fail
      refine HC.out.mono ?_
      rintro e w5 ⟨rfl, hb5, d5, hf5⟩
      have HB5 := Lib.hid (hbl.out.trans hb5)
      have HF5 := Lib.hid hf5
      clear hb5 hf5
      go_wp2_with fail
      go_roundw
      case rel => exact ⟨j + 1, by omega, by go_num, HB5, Lib.hid ⟨d5, HF5.out⟩⟩
      case measure => simp [intOf]; omega
    · have hjn : j = m := by omega
      have HJ := Lib.hid hjn
      clear hjn
      go_wp2_with fail
      go_end0
      have e : ts.take j = ts := List.take_of_length_le (by have := HJ.out; have := HMT.out; omega)
      have h2 := HFL.out
      rw [e] at h2
      exact ⟨rfl, hbl.out, d', h2⟩


set_option maxHeartbeats 1000000 in
theorem layS (dd : Nat) (ih : LayP (dd + 1)) : LayP (dd + 1 + 1) := by
  intro t gf base k S v d0 LL D w h hr hS hlen hk hsh hdl
  obtain ⟨b, sv, xs, rfl, hb, hh, ho, hxs, ha⟩ := hr
  obtain ⟨A, m, c, rfl⟩ := own_form ho
  have HQ := Lib.hid (layqS dd ih (show List (T (dd + 1)) from t) gf base k S A m c xs d0 LL D w h ho hxs ha hS hlen hk hsh hdl (by
    obtain ⟨L, hL⟩ : ∃ L, LL[k]? = some L := ⟨_, List.getElem?_eq_getElem (by omega)⟩
    rw [behind_node t hlen hL] at hsh
    exact parts_le (by rw [List.length_set]; omega) hsh))
  have hc : w.cell? ⟨b, 0, none⟩ = some (.slice A m c) := by simp [World.cell?, hh]
  have hta := tb20
  have htb := tb21
  have htc := tb22
  simp only [ptrT]
  clear h hb hh ho hxs ha hS hlen hsh hdl
  go_enter Try.func41, Try.ntmps41
  go_wp2_with fail
  refine HQ.out.mono ?_
  rintro e w1 ⟨rfl, hb1, d', hf1⟩
  have HB := Lib.hid hb1
  have HF := Lib.hid hf1
  clear hb1 hf1 HQ
  go_wp2_with fail
  go_end0
  exact ⟨rfl, HB.out, d', HF.out⟩

theorem lay_any : ∀ d, LayP d
  | 0 => lay0
  | 1 => lay1
  | d + 2 => layS d (lay_any (d + 1))
end

/- Spec -/
section
open Go.RowKit

/-- The model's reader at block g: its text, its place, and whether something was wrong. -/
def SRdr (w : World) (g : Nat) (s : ByteArray) (p : Nat) (b : Bool) : Prop := w.heap[g]? = some (.cells #[.string s, .int .i64 p, .bool b] 134 (0, 0))

section
variable {w w' : World} {g p : Nat} {s : ByteArray} {b : Bool}
theorem SRdr.c0 (h : SRdr w g s p b) : w.cell? ⟨g, 0, none⟩ = some (.string s) := cell_of_row w g 0 _ _ (0, 0) h
theorem SRdr.c1 (h : SRdr w g s p b) : w.cell? ⟨g, 1, none⟩ = some (.int .i64 p) := cell_of_row w g 1 _ _ (0, 0) h
theorem SRdr.c2 (h : SRdr w g s p b) : w.cell? ⟨g, 2, none⟩ = some (.bool b) := cell_of_row w g 2 _ _ (0, 0) h
theorem SRdr.f (h : SRdr w g s p b) (i : Nat) : w.frozen? ⟨g, i, none⟩ = false := by
  unfold SRdr at h
  simp [World.frozen?, h]
theorem SRdr.lt (h : SRdr w g s p b) : g < w.heap.size := by
  rcases Nat.lt_or_ge g w.heap.size with hlt | hge
  · exact hlt
  · unfold SRdr at h; rw [Array.getElem?_eq_none hge] at h; cases h
theorem SRdr.drewN (h : SRdr w g s p b) (n : Nat) : SRdr (w.drewN n) g s p b := h
theorem SRdr.set1 (h : SRdr w g s p b) (q : Nat) : SRdr (w.setCell ⟨g, 1, none⟩ (.int .i64 q)) g s q b := by
  unfold SRdr at h ⊢
  simp [World.setCell, Array.getElem?_modify, h]
theorem SRdr.set2 (h : SRdr w g s p b) (c : Bool) : SRdr (w.setCell ⟨g, 2, none⟩ (.bool c)) g s p c := by
  unfold SRdr at h ⊢
  simp [World.setCell, Array.getElem?_modify, h]
theorem SRdr.alloc (h : SRdr w g s p b) (o : Obj) : SRdr (w.alloc o) g s p b := (Below.heap_alloc w o g h.lt).trans h
theorem SRdr.grown {row : Option Nat} (h : SRdr w g s p b) (hg : w.grownBy w' row) (hne : some g ≠ row) : SRdr w' g s p b := (hg.block g h.lt hne).trans h
end

/-- The place of the reader, out of the world: a loop's measure. -/
def plcS (w : World) (g : Nat) : Nat := match w.cell? ⟨g, 1, none⟩ with
  | some v => (intOf v).toNat
  | none => 0
theorem plcS_drewN (w : World) (g n : Nat) : plcS (w.drewN n) g = plcS w g := rfl

set_option maxHeartbeats 400000 in
theorem is_out (g p : Nat) (s : ByteArray) (c : Int) (bad : Bool) (w : World) (h : SRdr w g s p bad) (hp : s.size ≤ p) :
    Calls Try.prog 111 #[.pointer (some ⟨g, 0, none⟩), .int .u8 c] w fun e w' => e = .returned (.bool false) ∧ ∃ n, w' = w.drewN n := by
  have h0 := h.c0
  have h1 := h.c1
  have hd : decide (p < s.size) = false := by simp; omega
  go_enter Try.func111, Try.ntmps111
  go_wp2_with fail
  go_quiet (fail)
  go_wp2_with fail
  go_ret
  exact ⟨rfl, _, rfl⟩

set_option maxHeartbeats 400000 in
theorem is_no (g p : Nat) (s : ByteArray) (c : Int) (bad : Bool) (w : World) (h : SRdr w g s p bad) (hc : ba s p ≠ c) :
    Calls Try.prog 111 #[.pointer (some ⟨g, 0, none⟩), .int .u8 c] w fun e w' => e = .returned (.bool false) ∧ ∃ n, w' = w.drewN n := by
  rcases Nat.lt_or_ge p s.size with hp | hp
  · have h0 := h.c0
    have h1 := h.c1
    have hd : decide (p < s.size) = true := by simp; omega
    have hb : ((s[p].toNat : Int) == c) = false := by rw [beq_eq_false_iff_ne, ← ba_in hp]; exact hc
    clear hc
    go_enter Try.func111, Try.ntmps111
    go_wp2_with fail
    go_quiet (fail)
    go_wp2_with fail
    go_ret
    exact ⟨rfl, _, rfl⟩
  · exact is_out g p s c bad w h hp

set_option maxHeartbeats 400000 in
theorem is_yes (g p : Nat) (s : ByteArray) (c : Int) (bad : Bool) (w : World) (h : SRdr w g s p bad) (h0c : 0 ≤ c) (hc : ba s p = c) (hs : s.size ≤ 400) :
    Calls Try.prog 111 #[.pointer (some ⟨g, 0, none⟩), .int .u8 c] w fun e w' => e = .returned (.bool true) ∧ SRdr w' g s (p + 1) bad ∧ w.grownBy w' (some g) := by
  have hp : p < s.size := ba_lt (by omega)
  have h0 := h.c0
  have h1 := h.c1
  have hf := h.f 1
  have hd : decide (p < s.size) = true := by simp; omega
  have hb : ((s[p].toNat : Int) == c) = true := by rw [beq_iff_eq, ← ba_in hp]; exact hc
  clear hc
  go_enter Try.func111, Try.ntmps111
  go_wp2_with fail
  go_quiet (fail)
  go_wp2_with fail
  go_ret
  refine ⟨rfl, ?_, ?_⟩
  · have := (h.drewN nq).set1 (p + 1)
    simpa using this
  · exact (gr_drewN w nq _).trans (gr_set _ _ _ _)
end

/- Num13 -/
section
open Go.RowKit

set_option maxHeartbeats 400000 in
theorem num13_empty (t : ByteArray) (w : World) (h0 : t.size = 0) :
    Calls Try.prog 121 #[.string t] w fun e w' => e = .returned (.tuple #[.int .i64 0, .bool false]) ∧ w' = w := by
  have hd : decide (0 < t.size) = false := decide_eq_false (by omega)
  have hd2 : ((t.size : Int) == 0) = true := beq_iff_eq.2 (by omega)
  clear h0
  go_enter Try.func121, Try.ntmps121
  go_wp2_with fail
  all_goals (go_ret2; exact ⟨rfl, rfl⟩)

set_option maxHeartbeats 400000 in
theorem num13_zero (t : ByteArray) (w : World) (h1 : 1 < t.size) (h6 : t.size ≤ 6) (hz : ba t 0 = 48) :
    Calls Try.prog 121 #[.string t] w fun e w' => e = .returned (.tuple #[.int .i64 0, .bool false]) ∧ w' = w := by
  have hp : 0 < t.size := by omega
  rw [ba_in hp] at hz
  have hb1 : ((t[0].toNat : Int) == 45) = false := by rw [hz]; rfl
  have hb2 : ((t[0].toNat : Int) == 48) = true := by rw [hz]; rfl
  have hd : decide (0 < t.size) = true := decide_eq_true (by omega)
  have hd2 : ((t.size : Int) == 0) = false := beq_eq_false_iff_ne.2 (by omega)
  clear hz
  go_enter Try.func121, Try.ntmps121
  go_wp2_with fail
  all_goals (go_ret2; exact ⟨rfl, rfl⟩)

theorem ret2_int {a b : Int} (h : a = b) (v : Value) : Ending.returned (.tuple #[.int .i64 a, v]) = .returned (.tuple #[.int .i64 b, v]) := by rw [h]

set_option maxHeartbeats 800000 in
theorem num13_good (t : ByteArray) (w : World) (h1 : 0 < t.size) (h6 : t.size ≤ 6) (hdig : ∀ i, i < t.size → dg t i = true) (hz : ba t 0 = 48 → t.size = 1) :
    Calls Try.prog 121 #[.string t] w fun e w' => e = .returned (.tuple #[.int .i64 (val t 0 t.size : Nat), .bool true]) ∧ w' = w := by
  have hd0 := dg_yes (hdig 0 h1)
  rw [ba_in h1] at hd0 hz
  have hb1 : ((t[0].toNat : Int) == 45) = false := beq_eq_false_iff_ne.2 (by omega)
  have hd : decide (0 < t.size) = true := decide_eq_true (by omega)
  have hd2 : ((t.size : Int) == 0) = false := beq_eq_false_iff_ne.2 (by omega)
  have HDG := Lib.hid hdig
  obtain ⟨Z, hZ⟩ : ∃ Z : Bool, ((t[0].toNat : Int) == 48) = Z := ⟨_, rfl⟩
  have hZ2 : Z = true → t.size = 1 := fun e => hz (by rw [e] at hZ; exact beq_iff_eq.1 hZ)
  clear hz hdig
  cases Z
  all_goals
    first
    | (have hs1 : decide (1 < (t.size : Int)) = false := decide_eq_false (by have := hZ2 rfl; omega))
    | skip
    clear hZ2
    go_enter Try.func121, Try.ntmps121
    go_wp2_with fail
    clear hZ hb1 hd hd2 hd0
    go_loop [5, 6] (fun n i => ∃ k : Nat, k ≤ t.size ∧ i = .int .i64 k ∧ n = .int .i64 (val t 0 k : Nat)) (fun _ i => t.size - (intOf i).toNat)
    case atStart => exact ⟨0, Nat.zero_le _, rfl, rfl⟩
    case round =>
      obtain ⟨k, hk, rfl, rfl⟩ := hrel
      by_cases hlt : k < t.size
      · have hdk := dg_yes (HDG.out k hlt)
        rw [ba_in hlt] at hdk
        obtain ⟨hdk1, hdk2⟩ := hdk
        have hvk := val_lt6 t 0 k (by omega) (fun i hi => by rw [Nat.zero_add]; exact HDG.out i (by omega))
        have HVS := Lib.hid (show ((val t 0 (k + 1) : Nat) : Int) = (val t 0 k : Int) * 10 + ((t[k].toNat : Int) - 48) from by
          rw [val, Nat.zero_add, ba_in hlt]; omega)
        go_wp2_with fail
        go_round
        case rel => exact ⟨k + 1, by omega, by go_num, by rw [HVS.out]⟩
        case measure => simp [intOf]; omega
      · have hk2 : k = t.size := by omega
        have HK := Lib.hid hk2
        clear hk2
        go_wp2_with fail
        go_ret2
        exact ⟨ret2_int (by rw [HK.out]) _, rfl⟩
end

/- SNum -/
section
open Go.RowKit

theorem val_ge (s : ByteArray) (p : Nat) (h : 49 ≤ ba s p) : ∀ k, 10 ^ k ≤ val s p (k + 1)
  | 0 => by simp only [val, Nat.add_zero]; omega
  | k + 1 => by
    have := val_ge s p h k
    rw [val, Nat.pow_succ]
    omega

def mn (s : ByteArray) (p : Nat) : Nat := min (nd s p) 6

/-- What l13Num says of the digits that number hands it. -/
def Said13 (s : ByteArray) (p : Nat) (n : Int) (ok : Bool) : Prop := match num s p with
  | some (v, q) => ok = true ∧ n = v ∧ q = p + mn s p ∧ 0 ≤ n ∧ n ≤ 10006
  | none => ok = false ∨ ¬ (0 ≤ n ∧ n ≤ 10006)

theorem num13_at (s : ByteArray) (p q : Nat) (hq : q = p + mn s p) (hqs : q ≤ s.size) :
    ∃ (n : Int) (ok : Bool), (∀ w, Calls Try.prog 121 #[.string (s.extract p q)] w fun e w' => e = .returned (.tuple #[.int .i64 n, .bool ok]) ∧ w' = w) ∧ Said13 s p n ok := by
  have hsz : (s.extract p q).size = mn s p := by simp; omega
  have hm6 : mn s p ≤ 6 := by unfold mn; omega
  have hmn : mn s p ≤ nd s p := by unfold mn; omega
  have hdig : ∀ i, i < (s.extract p q).size → dg (s.extract p q) i = true := fun i hi => by
    rw [dg_extract s p q i hqs (by omega)]; exact nd_dg s i p (by omega)
  rcases Nat.eq_zero_or_pos (mn s p) with h0 | h0
  · refine ⟨0, false, fun w => num13_empty _ w (by omega), ?_⟩
    unfold Said13
    rw [num_none (.inl (by unfold mn at h0; omega))]
    exact .inl rfl
  · have hb0 : ba (s.extract p q) 0 = ba s p := by rw [ba_extract s p q 0 hqs (by omega), Nat.add_zero]
    by_cases hz : ba s p = 48 ∧ 1 < mn s p
    · refine ⟨0, false, fun w => num13_zero _ w (by omega) (by omega) (by rw [hb0]; exact hz.1), ?_⟩
      unfold Said13
      rw [num_none (.inr (.inl ⟨hz.1, by omega⟩))]
      exact .inl rfl
    · refine ⟨_, true, fun w => num13_good _ w (by omega) (by omega) hdig (fun h => by rw [hb0] at h; have : ¬ 1 < mn s p := fun h' => hz ⟨h, h'⟩; omega), ?_⟩
      have hv : val (s.extract p q) 0 (s.extract p q).size = val s p (mn s p) := by rw [hsz, val_extract s p q hqs _ (by omega)]
      rw [hv]
      unfold Said13
      by_cases h6 : nd s p ≤ 6
      · have e : mn s p = nd s p := by unfold mn; omega
        rw [e]
        by_cases hbig : 10007 ≤ val s p (nd s p)
        · rw [num_none (.inr (.inr hbig))]
          exact .inr (by omega)
        · rw [num_some (by omega) (fun h => by have : ¬ 1 < mn s p := fun h' => hz ⟨h, h'⟩; omega) (by omega)]
          exact ⟨rfl, rfl, rfl, by omega, by omega⟩
      · have e : mn s p = 6 := by unfold mn; omega
        have h48 : ba s p ≠ 48 := fun h => hz ⟨h, by omega⟩
        have hd0 := dg_yes (nd_dg s 0 p (by omega))
        rw [Nat.add_zero] at hd0
        have hge : 10 ^ 5 ≤ val s p 6 := val_ge s p (by omega) 5
        have hmo := val_mono s p 6 (nd s p - 6)
        rw [show 6 + (nd s p - 6) = nd s p from by omega] at hmo
        rw [e]
        have hbig : 10007 ≤ val s p (nd s p) := by omega
        rw [num_none (.inr (.inr hbig))]
        exact .inr (by omega)

/-- How number ends. -/
def SNumPost (s : ByteArray) (p g : Nat) (w : World) (e : Ending) (w' : World) : Prop :=
  w.grownBy w' (some g) ∧ ∃ n : Int, e = .returned (.int .i64 n) ∧ ((∃ v q, num s p = some (v, q) ∧ n = (v : Nat) ∧ SRdr w' g s q false) ∨ (num s p = none ∧ ∃ q, SRdr w' g s q true))

theorem plc_eqS {w : World} {g p : Nat} {s : ByteArray} {b : Bool} (h : SRdr w g s p b) : plcS w g = p := by
  unfold plcS; rw [h.c1]; simp [intOf]

set_option maxHeartbeats 1000000 in
theorem snumber_any (g p : Nat) (s : ByteArray) (w : World) (h : SRdr w g s p false) (hs : s.size ≤ 400) (hp : p ≤ s.size) :
    Calls Try.prog 110 #[.pointer (some ⟨g, 0, none⟩)] w (SNumPost s p g w) := by
  have HR := Lib.hid h
  have hc0 := h.c0
  have hc1 := h.c1
  clear h
  go_enter Try.func110, Try.ntmps110
  go_wp2_with fail
  clear hc0 hc1
  go_loopw [10] (fun _ wr => ∃ k : Nat, k ≤ mn s p ∧ Hid (SRdr wr g s (p + k) false) ∧ Hid (w.grownBy wr (some g))) (fun _ wr => s.size + 1 - plcS wr g)
  case atStart => exact ⟨0, Nat.zero_le _, HR, Lib.hid (gr_refl _ _)⟩
  case round =>
    obtain ⟨k, hk, hr, hgr⟩ := hrel
    have hm6 : mn s p ≤ 6 := by unfold mn; omega
    have hmn : mn s p ≤ nd s p := by unfold mn; omega
    obtain ⟨q, hqe⟩ : ∃ q, p + k = q := ⟨_, rfl⟩
    have HRQ := Lib.hid hr.out
    rw [hqe] at HRQ
    have HQE := Lib.hid hqe
    have hqs : q ≤ s.size := by
      rcases Nat.eq_zero_or_pos k with h0 | h0
      · omega
      · have := nd_le s p (by omega); omega
    clear hqe hr
    have hc0 := HRQ.out.c0
    have hc1 := HRQ.out.c1
    have hcf := HRQ.out.f 1
    by_cases hlt : k < mn s p
    · have hdk : dg s q = true := by rw [← HQE.out]; exact nd_dg s k p (by omega)
      have hq := dg_lt hdk
      have hb := dg_yes hdk
      rw [ba_in hq] at hb
      have hin : decide (48 ≤ (s[q].toNat : Int) ∧ (s[q].toNat : Int) ≤ 57) = true := decide_eq_true hb
      have HI := Lib.hid (fun w => in_any (s[q].toNat : Int) 48 57 true hin w)
      have hd : decide (q < s.size) = true := decide_eq_true hq
      have h6 : decide ((q : Int) < (p : Int) + 6) = true := decide_eq_true (by have := HQE.out; omega)
      have w1 : IntKind.i64.wrap ((p : Int) + 6) = (p : Int) + 6 := IntWalk.i64_in _ (by omega)
      have w2 : IntKind.i64.wrap (s[q].toNat : Int) = (s[q].toNat : Int) := IntWalk.i64_in _ (by omega)
      clear hin hdk
      go_wp2_with fail
      go_quiet ((go_at_call 67; exact Calls.quiet_of_same (HI.out _)))
      clear w1 w2 h6 hd
      go_wp2_with fail
      go_roundw
      case rel =>
        refine ⟨k + 1, by omega, Lib.hid ?_, Lib.hid ((hgr.out.trans (gr_drewN _ nq _)).trans (gr_set _ _ _ _))⟩
        have := (HRQ.out.drewN nq).set1 (q + 1)
        rw [show p + (k + 1) = q + 1 from by have := HQE.out; omega]
        simpa using this
      case measure =>
        have e2 : SRdr ((wr.drewN nq).setCell ⟨g, 1, none⟩ (.int .i64 ((q + 1 : Nat) : Int))) g s (q + 1) false := (HRQ.out.drewN nq).set1 (q + 1)
        have e3 := plc_eqS e2
        rw [plc_eqS HRQ.out]
        simp only [Int.natCast_add, Int.cast_ofNat_Int] at e3
        rw [e3]
        omega
    · have hk2 : k = mn s p := by omega
      have hqm : q = p + mn s p := by rw [← hk2]; exact HQE.out.symm
      obtain ⟨n, ok, hcall, hsaid⟩ := num13_at s p q hqm hqs
      have HC := Lib.hid hcall
      have HS := Lib.hid hsaid
      have hcase : s.size ≤ q ∨ (∃ h : q < s.size, ¬ (48 ≤ (s[q].toNat : Int) ∧ (s[q].toNat : Int) ≤ 57)) ∨ (∃ h : q < s.size, (48 ≤ (s[q].toNat : Int) ∧ (s[q].toNat : Int) ≤ 57) ∧ p + 6 ≤ q) := by
        rcases Nat.lt_or_ge q s.size with h1 | h1
        · refine .inr ?_
          by_cases h2 : 48 ≤ (s[q].toNat : Int) ∧ (s[q].toNat : Int) ≤ 57
          · refine .inr ⟨h1, h2, ?_⟩
            have hdq : dg s q = true := by unfold dg; rw [ba_in h1]; exact decide_eq_true h2
            have : ¬ mn s p = nd s p := fun e => by
              have := nd_stop s (nd s p) p rfl
              rw [← e, ← hqm, hdq] at this
              cases this
            unfold mn at *
            omega
          · exact .inl ⟨h1, h2⟩
        · exact .inl h1
      clear hcall hsaid hk2
      have HQM := Lib.hid hqm
      clear hqm
      have w1 : IntKind.i64.wrap ((p : Int) + 6) = (p : Int) + 6 := IntWalk.i64_in _ (by omega)
      rcases hcase with h1 | ⟨hq, h2⟩ | ⟨hq, h2, h3⟩
      case' inl =>
        have hd : decide (q < s.size) = false := decide_eq_false (by omega)
        go_wp2_with fail
        go_quiet (fail)
      case' inr.inl =>
        have hd : decide (q < s.size) = true := decide_eq_true hq
        have HI := Lib.hid (fun w => in_any (s[q].toNat : Int) 48 57 false (decide_eq_false h2) w)
        have w2 : IntKind.i64.wrap (s[q].toNat : Int) = (s[q].toNat : Int) := IntWalk.i64_in _ (by have := UInt8.toNat_lt s[q]; omega)
        clear h2
        go_wp2_with fail
        go_quiet ((go_at_call 67; exact Calls.quiet_of_same (HI.out _)))
        clear w2 hd
      case' inr.inr =>
        have hd : decide (q < s.size) = true := decide_eq_true hq
        have HI := Lib.hid (fun w => in_any (s[q].toNat : Int) 48 57 true (decide_eq_true h2) w)
        have h6 : decide ((q : Int) < (p : Int) + 6) = false := decide_eq_false (by omega)
        have w2 : IntKind.i64.wrap (s[q].toNat : Int) = (s[q].toNat : Int) := IntWalk.i64_in _ (by omega)
        clear h2
        go_wp2_with fail
        go_quiet ((go_at_call 67; exact Calls.quiet_of_same (HI.out _)))
        clear w2 hd h6
      all_goals
        clear w1
        have hpq : p ≤ q := by have := HQE.out; omega
        have hc2 := HRQ.out.c2
        have hf2 := HRQ.out.f 2
        go_wp2_with fail
        go_quiet ((go_at_call 121; exact qsame HC.out))
        cases ok
        case' false =>
          go_wp2_with fail
          go_ret
          refine ⟨(hgr.out.trans (gr_drewN _ _ _)).trans (gr_set _ _ _ _), n, rfl, .inr ⟨?_, q, (HRQ.out.drewN _).set2 true⟩⟩
          have := HS.out
          unfold Said13 at this
          split at this
          · cases this.1
          · assumption
        obtain ⟨b, hb⟩ : ∃ b : Bool, decide (0 ≤ n ∧ n ≤ 10006) = b := ⟨_, rfl⟩
        have HB := Lib.hid (fun w => in_any n 0 10006 b hb w)
        have HBB := Lib.hid hb
        clear hb
        cases b
        all_goals
          go_wp2_with fail
          refine (HB.out _).mono ?_
          rintro e w9 ⟨rfl, rfl⟩
          go_wp2_with fail
          go_ret
        · refine ⟨(hgr.out.trans (gr_drewN _ _ _)).trans (gr_set _ _ _ _), n, rfl, .inr ⟨?_, q, (HRQ.out.drewN _).set2 true⟩⟩
          have := HS.out
          have hb := HBB.out
          unfold Said13 at this
          split at this
          · simp at hb; omega
          · assumption
        · refine ⟨(hgr.out.trans (gr_drewN _ _ _)).trans (gr_set _ _ _ _), n, rfl, .inl ?_⟩
          have := HS.out
          have hb := HBB.out
          unfold Said13 at this
          split at this
          · rename_i v q2 hn
            obtain ⟨_, hv, hq2, _⟩ := this
            refine ⟨v, q2, hn, hv, ?_⟩
            have e : q2 = q := by rw [hq2]; exact HQM.out.symm
            rw [e]
            exact (HRQ.out.drewN _).set2 false
          · simp at hb; simp at this; omega
end

/- SNode -/
section
open Go.RowKit

/-- How node ends. -/
def SArrPost (s : ByteArray) (d p g : Nat) (w : World) (e : Ending) (w' : World) : Prop :=
  w.grownBy w' (some g) ∧ ∃ m sv, e = .returned (.agg #[.int .i64 m, sv]) ∧ (∃ A k c, sv = .slice A k c) ∧
    ((∃ t q, node s d p = some (t, q) ∧ SRdr w' g s q false ∧ SNd w' (fun b => w.heap.size ≤ b) d t (m, sv)) ∨ (node s d p = none ∧ ∃ q, SRdr w' g s q true))

theorem SRdr.far {w : World} {g p : Nat} {s : ByteArray} {b : Bool} (h : SRdr w g s p b) {k i : Nat} (hk : g ≠ k) (u : Value) : SRdr (w.setCell ⟨k, i, none⟩ u) g s p b := (Below.heap_setCell _ _ _ _ hk).trans h
theorem SRdr.drew {w : World} {g p : Nat} {s : ByteArray} {b : Bool} (h : SRdr w g s p b) : SRdr w.drew g s p b := h

/-- A world behind node's first blocks, in which the reader has gone on: what node's end needs. -/
theorem sarr_ok {s : ByteArray} {d p g q : Nat} {w w' : World} {e : Ending} {m : Int} {A : Option Addr} {k c : Nat} {t : T d} (hg : w.grownBy w' (some g)) (he : e = .returned (.agg #[.int .i64 m, .slice A k c])) (hn : node s d p = some (t, q)) (hr : SRdr w' g s q false)
    (ha : SNd w' (fun b => w.heap.size ≤ b) d t (m, .slice A k c)) : SArrPost s d p g w e w' := ⟨hg, m, _, he, ⟨_, _, _, rfl⟩, .inl ⟨t, q, hn, hr, ha⟩⟩
theorem sarr_bad {s : ByteArray} {d p g q : Nat} {w w' : World} {e : Ending} {m : Int} {A : Option Addr} {k c : Nat} (hg : w.grownBy w' (some g)) (he : e = .returned (.agg #[.int .i64 m, .slice A k c])) (hn : node s d p = none) (hr : SRdr w' g s q true) :
    SArrPost s d p g w e w' := ⟨hg, m, _, he, ⟨_, _, _, rfl⟩, .inr ⟨hn, q, hr⟩⟩

set_option maxHeartbeats 400000 in
theorem snode0 (g p : Nat) (s : ByteArray) (w : World) (h : SRdr w g s p false) (hs : s.size ≤ 400) (hp : p ≤ s.size) :
    Calls Try.prog 95 #[.pointer (some ⟨g, 0, none⟩), .int .i64 0] w (SArrPost s 0 p g w) := by
  have HR := Lib.hid h
  have hgw := h.lt
  clear h
  go_enter Try.func95, Try.ntmps95
  go_wp2_with fail
  refine (snumber_any g p s _ (((HR.out.alloc _).alloc _).alloc _) hs hp).mono ?_
  have HB := Lib.hid (begun w)
  generalize ((w.alloc (.cells #[.int .i64 0, .slice none 0 0] 97)).alloc (.cells #[] 97)).alloc (.cells #[.int .i64 0, .slice (some ⟨w.heap.size + 1, 0, none⟩) 0 0] 97) = w3 at HB
  rintro e w4 ⟨hg4, n, rfl, hcase⟩
  have hz3 := HB.out.size
  have HG4 := Lib.hid hg4
  have HRES := Lib.hid (HB.out.res.grown hg4 (by simp; omega))
  have HOUT := Lib.hid (HB.out.out.grown hg4 (by simp; omega))
  have HCASE := Lib.hid hcase
  have r0 := HRES.out.c0
  have r1 := HRES.out.c1
  have o0 := HOUT.out.c0
  have o1 := HOUT.out.c1
  have f0 := HRES.out.f 0
  have f1 := HRES.out.f 1
  have f2 := HOUT.out.f 0
  clear hg4 hcase
  go_wp2_with fail
  refine bodyPost_ret (v := .agg #[.int .i64 n, .slice (some ⟨w.heap.size + 1, 0, none⟩) 0 0]) (by simp [results, Try.results95, go_sem, r0, r1]) rfl ?_
  have hga := gr_some HB.out.gr HG4.out
  have hgb := gr_set_row (gr_set_row (gr_set_row (i := 0) (b := w.heap.size + 1 + 1) hga (by omega) (.int .i64 n)) (i := 0) (Nat.le_refl _) (.int .i64 n)) (i := 1) (Nat.le_refl _) (.slice (some ⟨w.heap.size + 1, 0, none⟩) 0 0)
  rcases HCASE.out with ⟨v, q, hn, hv, hr⟩ | ⟨hn, q, hr⟩
  · exact sarr_ok (d := 0) (t := v) hgb rfl hn (((hr.far (by omega) _).far (by omega) _).far (by omega) _) ⟨hv, (num_ge hn).2.2, _, _, _, rfl⟩
  · exact sarr_bad (d := 0) hgb rfl hn (((hr.far (by omega) _).far (by omega) _).far (by omega) _)
end

/- SLoop -/
section
open Go.RowKit

/-- What holds of the memory while node gathers parts. -/
structure SLf (s : ByteArray) (g : Nat) (w wr : World) (sv : Value) (xs : List (Int × Value)) (q : Nat) (bad : Bool) : Prop where
  rdr : SRdr wr g s q bad
  gr : w.grownBy wr (some g)
  size : w.heap.size + 3 ≤ wr.heap.size
  res : Two wr w.heap.size (.int .i64 0) (.slice none 0 0)
  out : Two wr (w.heap.size + 1 + 1) (.int .i64 0) sv
  own : wr.ownsRow w.heap.size 97 2 sv xs.length (flat2 xs)
  ne0 : sv.ownBlock ≠ some w.heap.size
  ne2 : sv.ownBlock ≠ some (w.heap.size + 1 + 1)

/-- Nothing is wrong so far. -/
structure SLg (s : ByteArray) (d p g : Nat) (w wr : World) (sv : Value) (ts : List (T d)) (xs : List (Int × Value)) (f q : Nat) : Prop where
  lf : SLf s g w wr sv xs q false
  le : q ≤ s.size
  fuel : s.size < f + q
  com : parts s (node s d) p = cons' ts (more s (node s d) f q)
  len : xs.length ≤ q
  all : All2 (SNd wr (fun b => w.heap.size + 3 ≤ b ∧ sv.ownBlock ≠ some b) d) ts xs

def SLoop (s : ByteArray) (d p g : Nat) (w wr : World) (sv : Value) (xs : List (Int × Value)) (q : Nat) (bad : Bool) : Prop :=
  SLf s g w wr sv xs q bad ∧ ((bad = false ∧ ∃ ts f, SLg s d p g w wr sv ts xs f q) ∨ (bad = true ∧ parts s (node s d) p = none))

/-- A loop's measure, out of the world. -/
def mS (N : Nat) (w : World) (g : Nat) : Nat := match w.cell? ⟨g, 2, none⟩ with
  | some (.bool true) => 0
  | _ => N + 1 - plcS w g
theorem mS_bad {N : Nat} {w : World} {g p : Nat} {s : ByteArray} (h : SRdr w g s p true) : mS N w g = 0 := by unfold mS; rw [h.c2]
theorem mS_good {N : Nat} {w : World} {g p : Nat} {s : ByteArray} (h : SRdr w g s p false) : mS N w g = N + 1 - p := by unfold mS; rw [h.c2, plc_eqS h]

section
variable {s : ByteArray} {d p g : Nat} {w wr : World} {sv : Value} {ts : List (T d)} {xs : List (Int × Value)} {f q : Nat} {bad : Bool}

theorem SLf.drewN (h : SLf s g w wr sv xs q bad) (n : Nat) : SLf s g w (wr.drewN n) sv xs q bad :=
  ⟨h.rdr.drewN n, h.gr.trans (gr_drewN _ _ _), h.size, h.res.drewN n, h.out.drewN n, own_keep h.own (fun _ _ => rfl), h.ne0, h.ne2⟩
/-- The reader alone has gone on. -/
theorem SLf.reader (h : SLf s g w wr sv xs q bad) {w2 : World} {q2 : Nat} {b2 : Bool} (hg : wr.grownBy w2 (some g)) (hr : SRdr w2 g s q2 b2) (hgw : g < w.heap.size) : SLf s g w w2 sv xs q2 b2 := by
  have hb : ∀ b, w.heap.size ≤ b → b < wr.heap.size → w2.heap[b]? = wr.heap[b]? := fun b hb hb2 => hg.block b hb2 (by simp; omega)
  have hl := h.own.lt
  have hsz := hg.size
  have := h.size
  exact ⟨hr, h.gr.trans hg, by omega, h.res.grown hg (by simp; omega), h.out.grown hg (by simp; omega), own_keep h.own (fun k hk => hb k (hl k hk).1 (hl k hk).2), h.ne0, h.ne2⟩

/-- A part more: the element was read (world we), laid in a box, appended (world w2), and the variable written. -/
theorem SLf.step (h : SLf s g w wr sv xs q false) {m : Int} {v : Value} {we w2 : World} {q2 : Nat} {b2 : Bool} {gg cap : Nat} {o : Obj}
    (hge : wr.grownBy we (some g)) (hrd : SRdr we g s q2 b2)
    (hown : w2.ownsRow w.heap.size 97 2 (.slice (some ⟨gg, 0, none⟩) (xs.length + 1) cap) (xs.length + 1) (flat2 xs ++ [.int .i64 m, v])) (hg2 : (we.alloc o).grownBy w2 sv.ownBlock)
    (hat : sv.ownBlock = some gg ∨ gg = we.heap.size + 1) (hgw : g < w.heap.size) :
    SLf s g w (w2.setCell ⟨w.heap.size + 1 + 1, 1, none⟩ (.slice (some ⟨gg, 0, none⟩) (xs.length + 1) cap)) (.slice (some ⟨gg, 0, none⟩) (xs.length + 1) cap) (xs ++ [(m, v)]) q2 b2 := by
  have hsz : (we.alloc o).heap.size = we.heap.size + 1 := by simp
  have hsw := h.gr.size
  have hse := hge.size
  have hs2 := hg2.size
  have hs3 := h.size
  have hlt := h.own.lt
  have hga : we.grownBy (we.alloc o) (some g) := World.grownBy_alloc _ _ _
  have hgg : gg ≠ w.heap.size ∧ gg ≠ w.heap.size + 1 + 1 ∧ w.heap.size ≤ gg := by
    rcases hat with e | e
    · exact ⟨fun e2 => h.ne0 (by rw [e, e2]), fun e2 => h.ne2 (by rw [e, e2]), (hlt gg e).1⟩
    · exact ⟨by omega, by omega, by omega⟩
  have h1 := h.gr.trans (hge.trans hga)
  have hg3 : w.grownBy w2 (some g) := ⟨hg2.os.trans h1.os, hg2.tape.trans h1.tape, hg2.output.trans h1.output, Nat.le_trans h1.size hg2.size, fun k hk hne =>
    (hg2.block k (Nat.lt_of_lt_of_le hk h1.size) (fun e => by have := (hlt k e.symm).1; omega)).trans (h1.block k hk hne)⟩
  refine ⟨?_, gr_set_row hg3 (by omega) _, by have := (gr_set w2 (w.heap.size + 1 + 1) 1 (.slice (some ⟨gg, 0, none⟩) (xs.length + 1) cap)).size; omega, ?_, ?_, ?_, ?_, ?_⟩
  · exact ((hrd.alloc o).grown hg2 (fun e => by have := (hlt g e.symm).1; omega)).far (by omega) _
  · exact (((h.res.grown hge (by simp; omega)).alloc o).grown hg2 (fun e => h.ne0 e.symm)).far (by omega) _
  · exact (((h.out.grown hge (by simp; omega)).alloc o).grown hg2 (fun e => h.ne2 e.symm)).set1 _
  · rw [flat2_snoc, List.length_append]
    exact own_keep hown (fun k hk => Below.heap_setCell _ _ _ _ (by simp [Value.ownBlock] at hk; subst hk; exact hgg.2.1))
  · simpa [Value.ownBlock] using hgg.1
  · simpa [Value.ownBlock] using hgg.2.1

theorem SLf.step_all (h : SLf s g w wr sv xs q false) (hall : All2 (SNd wr (fun b => w.heap.size + 3 ≤ b ∧ sv.ownBlock ≠ some b) d) ts xs) {m : Int} {v : Value} {t : T d} {we w2 : World} {gg cap : Nat} {o : Obj}
    (hge : wr.grownBy we (some g)) (hnd : SNd we (fun b => wr.heap.size ≤ b) d t (m, v)) (hg2 : (we.alloc o).grownBy w2 sv.ownBlock)
    (hat : sv.ownBlock = some gg ∨ gg = we.heap.size + 1) (hgw : g < w.heap.size) :
    All2 (SNd (w2.setCell ⟨w.heap.size + 1 + 1, 1, none⟩ (.slice (some ⟨gg, 0, none⟩) (xs.length + 1) cap)) (fun b => w.heap.size + 3 ≤ b ∧ (Value.slice (some ⟨gg, 0, none⟩) (xs.length + 1) cap).ownBlock ≠ some b) d) (ts ++ [t]) (xs ++ [(m, v)]) := by
  have hsz : (we.alloc o).heap.size = we.heap.size + 1 := by simp
  have hsw := h.gr.size
  have hse := hge.size
  have hs3 := h.size
  have hlt := h.own.lt
  have hga : we.grownBy (we.alloc o) (some g) := World.grownBy_alloc _ _ _
  have hne : ∀ b, sv.ownBlock ≠ some b → b < we.heap.size → (Value.slice (some ⟨gg, 0, none⟩) (xs.length + 1) cap).ownBlock ≠ some b := by
    intro b hb hb2 e
    simp only [Value.ownBlock, Option.some.injEq] at e
    rcases hat with e2 | e2
    · exact hb (e2.trans (by rw [e]))
    · omega
  have hset : ∀ b, w.heap.size + 3 ≤ b → (w2.setCell ⟨w.heap.size + 1 + 1, 1, none⟩ (.slice (some ⟨gg, 0, none⟩) (xs.length + 1) cap)).heap[b]? = w2.heap[b]? := fun b hb => Below.heap_setCell _ _ _ _ (by show b ≠ w.heap.size + 1 + 1; omega)
  refine All2.snoc ?_ ts xs ?_
  · refine SNd.keep ?_ ?_ d t (m, v) hnd
    · intro b hb hb2
      rw [hset b (by omega), hg2.block b (by omega) (fun e => by have := (hlt b e.symm).2; omega), hga.block b (by omega) (by simp; omega)]
    · intro b hb hb2
      exact ⟨by omega, hne b (fun e => by have := (hlt b e).2; omega) hb2⟩
  · refine All2.mono (SNd.keep ?_ ?_ d) ts xs hall
    · rintro b ⟨hb1, hb2⟩ hb
      rw [hset b hb1, hg2.block b (by omega) (fun e => hb2 e.symm), hga.block b (by omega) (by simp; omega), hge.block b hb (by simp; omega)]
    · rintro b ⟨hb1, hb2⟩ hb
      exact ⟨hb1, hne b hb2 (by omega)⟩

/-- Behind a part that was read and appended: the next head, good or bad. com: what the parts come to if the part is there; bad: if not. -/
theorem sloop_step (h : SLf s g w wr sv xs q false) (hall : All2 (SNd wr (fun b => w.heap.size + 3 ≤ b ∧ sv.ownBlock ≠ some b) d) ts xs) {pe : Nat} {m : Int} {v : Value} {we w2 : World} {gg cap : Nat} {o : Obj}
    (hlen : xs.length < pe)
    (hgood : ∀ t q2, node s d pe = some (t, q2) → ∃ f', s.size < f' + q2 ∧ parts s (node s d) p = cons' (ts ++ [t]) (more s (node s d) f' q2)) (hbad : node s d pe = none → parts s (node s d) p = none)
    (hge : wr.grownBy we (some g)) (hcase : (∃ t q2, node s d pe = some (t, q2) ∧ SRdr we g s q2 false ∧ SNd we (fun b => wr.heap.size ≤ b) d t (m, v)) ∨ (node s d pe = none ∧ ∃ q2, SRdr we g s q2 true))
    (hown : w2.ownsRow w.heap.size 97 2 (.slice (some ⟨gg, 0, none⟩) (xs.length + 1) cap) (xs.length + 1) (flat2 xs ++ [.int .i64 m, v])) (hg2 : (we.alloc o).grownBy w2 sv.ownBlock)
    (hat : sv.ownBlock = some gg ∨ gg = we.heap.size + 1) (hgw : g < w.heap.size) :
    ∃ q2 b2, SLoop s d p g w (w2.setCell ⟨w.heap.size + 1 + 1, 1, none⟩ (.slice (some ⟨gg, 0, none⟩) (xs.length + 1) cap)) (.slice (some ⟨gg, 0, none⟩) (xs.length + 1) cap) (xs ++ [(m, v)]) q2 b2 ∧ (b2 = false → pe < q2 ∧ q2 ≤ s.size) := by
  rcases hcase with ⟨t, q2, hn, hr, hnd⟩ | ⟨hn, q2, hr⟩
  · obtain ⟨f', hf, hcom⟩ := hgood t q2 hn
    have hq := node_ge s d _ _ _ hn
    have hl := h.step hge hr hown hg2 hat hgw
    exact ⟨q2, false, ⟨hl, .inl ⟨rfl, ts ++ [t], f', ⟨hl, hq.2, hf, hcom, by rw [List.length_append]; simp; omega, h.step_all hall hge hnd hg2 hat hgw⟩⟩⟩, fun _ => hq⟩
  · exact ⟨q2, true, ⟨h.step hge hr hown hg2 hat hgw, .inr ⟨rfl, hbad hn⟩⟩, fun e => by cases e⟩
theorem SLf.laid (h : SLf s g w wr sv xs q bad) {w2 : World} {q2 : Nat} {b2 : Bool} (hg : wr.grownBy w2 (some g)) (hr : SRdr w2 g s q2 b2) (hgw : g < w.heap.size) :
    w.grownBy (laidOut' w w2 sv) (some g) ∧ SRdr (laidOut' w w2 sv) g s q2 b2 :=
  ⟨gr_set_row (gr_set_row (h.gr.trans hg) (Nat.le_refl _) _) (Nat.le_refl _) _, (hr.far (by omega) _).far (by omega) _⟩
theorem SLf.end_bad (h : SLf s g w wr sv xs q bad) (hn : parts s (node s d) p = none) {w2 : World} {q2 : Nat} (hg : wr.grownBy w2 (some g)) (hr : SRdr w2 g s q2 true) (hgw : g < w.heap.size) :
    SArrPost s (d + 1) p g w (.returned (.agg #[.int .i64 0, sv])) (laidOut' w w2 sv) := by
  obtain ⟨h1, h2⟩ := h.laid hg hr hgw
  exact ⟨h1, 0, sv, rfl, own_form h.own, .inr ⟨hn, q2, h2⟩⟩
theorem SLg.end_good (h : SLg s d p g w wr sv ts xs f q) (hc : ba s q = 93) {w2 : World} (hg : wr.grownBy w2 (some g)) (hr : SRdr w2 g s (q + 1) false) (hgw : g < w.heap.size) :
    SArrPost s (d + 1) p g w (.returned (.agg #[.int .i64 0, sv])) (laidOut' w w2 sv) := by
  obtain ⟨h1, h2⟩ := h.lf.laid hg hr hgw
  have hcom : parts s (node s d) p = some (ts, q + 1) := by
    obtain ⟨f', rfl⟩ : ∃ f', f = f' + 1 := ⟨f - 1, by have := h.fuel; have := h.le; omega⟩
    rw [h.com, more, if_pos hc]
    simp [cons']
  have hl := h.lf.own.lt
  have hsz := hg.size
  have hkeep : ∀ b, w.heap.size < b → b < wr.heap.size → (laidOut' w w2 sv).heap[b]? = wr.heap[b]? := fun b hb hb2 =>
    (laid_heap w w2 sv b (by omega)).trans (hg.block b hb2 (by simp; omega))
  have hrow : ∀ k, sv.ownBlock = some k → w.heap.size < k := fun k hk => by
    have := (hl k hk).1
    have : k ≠ w.heap.size := fun e => h.lf.ne0 (by rw [hk, e])
    omega
  refine ⟨h1, 0, sv, rfl, own_form h.lf.own, .inl ⟨ts, q + 1, hcom, h2, xs, own_base (own_keep h.lf.own (fun k hk => hkeep k (hrow k hk) (hl k hk).2)) (Nat.zero_le _), fun k hk => (hl k hk).1, ?_⟩⟩
  exact All2.mono (SNd.keep (fun b hb hb2 => hkeep b (by omega) hb2) (fun b hb _ => by omega) d) ts xs h.all
theorem SLg.stop (h : SLg s d p g w wr sv ts xs f q) (hc : ba s q ≠ 93) (h2 : ba s q ≠ 44) : parts s (node s d) p = none := by
  obtain ⟨f', rfl⟩ : ∃ f', f = f' + 1 := ⟨f - 1, by have := h.fuel; have := h.le; omega⟩
  rw [h.com, more, if_neg hc, if_neg h2]
  rfl
theorem SLg.goes (h : SLg s d p g w wr sv ts xs f q) (h2 : ba s q = 44) :
    (∀ t q2, node s d (q + 1) = some (t, q2) → ∃ f', s.size < f' + q2 ∧ parts s (node s d) p = cons' (ts ++ [t]) (more s (node s d) f' q2)) ∧ (node s d (q + 1) = none → parts s (node s d) p = none) := by
  obtain ⟨f', rfl⟩ : ∃ f', f = f' + 1 := ⟨f - 1, by have := h.fuel; have := h.le; omega⟩
  constructor
  · intro t q2 hn
    have hg := node_ge s d _ _ _ hn
    have := h.fuel
    refine ⟨f', by omega, ?_⟩
    rw [h.com, more, if_neg (by omega), if_pos h2, hn]
    simp only
    cases hm : more s (node s d) f' q2 with
    | none => rfl
    | some r => simp [cons']
  · intro hn
    rw [h.com, more, if_neg (by omega), if_pos h2, hn]
    rfl
end
end

/- SNodeS -/
section
open Go.RowKit


theorem slf_start {s : ByteArray} {g p : Nat} {w w3 : World} (hb : Begun w w3) (hr : SRdr w3 g s p false) : SLf s g w w3 (.slice (some ⟨w.heap.size + 1, 0, none⟩) 0 0) [] p false :=
  ⟨hr, gr_some hb.gr (gr_refl _ _), by rw [hb.size]; omega, hb.res, hb.out, hb.own, by simp [Value.ownBlock], by simp [Value.ownBlock]⟩

theorem slf_own {s : ByteArray} {g q : Nat} {w wr we : World} {sv : Value} {xs : List (Int × Value)} {bad : Bool} (h : SLf s g w wr sv xs q bad) (hg : wr.grownBy we (some g)) (hgw : g < w.heap.size) (o : Obj) :
    (we.alloc o).ownsRow w.heap.size 97 2 sv xs.length (flat2 xs) :=
  (own_keep h.own (fun k hk => hg.block k (h.own.lt k hk).2 (fun e => by have := (h.own.lt k hk).1; simp at e; omega))).alloc o

/-- The variable's second cell behind the append. -/
theorem slf_cell {s : ByteArray} {g q : Nat} {w wr we w2 : World} {sv : Value} {xs : List (Int × Value)} {bad : Bool} {o : Obj} (h : SLf s g w wr sv xs q bad) (hg : wr.grownBy we (some g)) (hgw : g < w.heap.size) (hg2 : (we.alloc o).grownBy w2 sv.ownBlock) :
    Two w2 (w.heap.size + 1 + 1) (.int .i64 0) sv :=
  ((h.out.grown hg (by simp; omega)).alloc o).grown hg2 (fun e => h.ne2 e.symm)

set_option maxRecDepth 100000 in
set_option maxHeartbeats 4000000 in
theorem snode_main (g p d : Nat) (n : Int) (s : ByteArray) (w : World) (h : SRdr w g s p false) (hs : s.size ≤ 400) (hn1 : 1 ≤ n) (hn2 : n ≤ 1000)
    (hc : ba s p = 91) (hc2 : ba s (p + 1) ≠ 93)
    (ih : ∀ (p : Nat) (w : World), SRdr w g s p false → p ≤ s.size → Calls Try.prog 95 #[.pointer (some ⟨g, 0, none⟩), .int .i64 (n - 1)] w (SArrPost s d p g w)) :
    Calls Try.prog 95 #[.pointer (some ⟨g, 0, none⟩), .int .i64 n] w (SArrPost s (d + 1) p g w) := by
  obtain ⟨i0, hi0, hz0, hz1, hz2⟩ := info_parts infoN
  have HR := Lib.hid h
  have hgw := h.lt
  have HI := Lib.hid ih
  have HC := Lib.hid hc
  have HC2 := Lib.hid hc2
  have hp1 : p < s.size := ba_lt (by omega)
  have e0 : (n == 0) = false := by rw [beq_eq_false_iff_ne]; omega
  clear h ih hc hc2
  go_enter Try.func95, Try.ntmps95
  go_wp2_with fail
  clear e0
  refine (is_yes g p s 91 false _ (((HR.out.alloc _).alloc _).alloc _) (by omega) HC.out hs).mono ?_
  have HB := Lib.hid (begun w)
  have HR3 := Lib.hid (((HR.out.alloc (.cells #[.int .i64 0, .slice none 0 0] 97)).alloc (.cells #[] 97)).alloc (.cells #[.int .i64 0, .slice (some ⟨w.heap.size + 1, 0, none⟩) 0 0] 97))
  generalize ((w.alloc (.cells #[.int .i64 0, .slice none 0 0] 97)).alloc (.cells #[] 97)).alloc (.cells #[.int .i64 0, .slice (some ⟨w.heap.size + 1, 0, none⟩) 0 0] 97) = w3 at HB HR3
  rintro e w4 ⟨rfl, hr4, hg4⟩
  have HL4 := Lib.hid ((slf_start HB.out HR3.out).reader hg4 hr4 hgw)
  clear hr4 hg4
  go_wp2_with fail
  refine (is_no g (p + 1) s 93 false w4 HL4.out.rdr HC2.out).mono ?_
  rintro e w5 ⟨rfl, n5, rfl⟩
  go_wp2_with fail
  have o1 := HL4.out.out.c1
  have wn : IntKind.i64.wrap (n - 1) = n - 1 := IntWalk.i64_in _ (by omega)
  go_region_law (first
    | (refine step_append_lies _ (by rfl) _ _ _ (by rfl) w.heap.size 97 i0 _ 2 32 Try.underlying95 hi0 hz0 hz1 hz2 rfl (by omega) _ 0 [] (by rfl) own7 ⟨w7.heap.size, 0, none⟩ 1 1 [.int .i64 m, .slice A7 k7 c7] (by rfl) (by rfl) (World.news_of_block (cs := #[.int .i64 m, .slice A7 k7 c7]) (t := 97) (fr := (0, 0)) (heap_alloc_new w7 _)) (by simp [Value.oneCell']) (by omega) (by simp [maxLen]) (by omega) (by simp; omega) (w7.heap.size + 1) (by simp) ?_
       intro gg cap w8 hown8 hg8 hat8 hlt8
       have t8 := slf_cell (o := .cells #[.int .i64 m, .slice A7 k7 c7] 97) HL4.out HG7.out hgw hg8
       have o8 := t8.c1
       have f8 := t8.f 1
       have HO8 := Lib.hid hown8
       have HG8 := Lib.hid hg8
       have HA8 := Lib.hid hat8
       clear hown8 hg8 hat8 hlt8 t8)
    | (go_simp
       go_at_call 95
       refine (HI.out (p + 1) _ (HL4.out.rdr.drewN _) (by omega)).mono ?_
       rintro e w7 ⟨hg7, m, v7, rfl, ⟨A7, k7, c7, rfl⟩, hcase7⟩
       have HG7 := Lib.hid ((gr_drewN w4 _ _).trans hg7)
       have hb7 := HG7.out.size
       have hb4 := HL4.out.size
       have o7 := (HL4.out.out.grown HG7.out (by simp; omega)).c1
       have o7b := ((HL4.out.out.grown HG7.out (by simp; omega)).alloc (.cells #[.int .i64 m, .slice A7 k7 c7] 97)).c1
       have own7 := slf_own HL4.out HG7.out hgw (.cells #[.int .i64 m, .slice A7 k7 c7] 97)
       have HC7 := Lib.hid hcase7
       clear hg7 hcase7))
  all_goals
    have hstep := sloop_step (p := p) (ts := []) HL4.out trivial (by simp) (fun t q2 hn => ⟨s.size + 1, by omega, parts_s HC.out HC2.out hn⟩) (fun hn => parts_n2 HC.out HC2.out hn) HG7.out HC7.out HO8.out HG8.out HA8.out hgw
    obtain ⟨q2, b2, hS, _⟩ := hstep
    have HS := Lib.hid hS
    clear hS HO8 HG8 HA8 o1 o7 o7b o8 f8 own7 HC7 HG7 hb7 hb4
    go_wp2_with fail
    go_loopw [33] (fun _ wr => ∃ sv xs q bad, Hid (SLoop s d p g w wr sv xs q bad)) (fun _ wr => mS s.size wr g)
    case atStart => exact ⟨_, _, _, _, HS⟩
    case round =>
      clear HS HL4
      obtain ⟨sv, xs, q, bad, hL⟩ := hrel
      obtain ⟨A, k, c, rfl⟩ := own_form hL.out.1.own
      cases bad
      · have hg : ∃ ts f, SLg s d p g w wr (.slice A k c) ts xs f q := by
          rcases hL.out.2 with ⟨_, h⟩ | ⟨h, _⟩
          · exact h
          · cases h
        obtain ⟨ts, f, hg'⟩ := hg
        have HGD := Lib.hid hg'
        clear hg' hL
        have hq := HGD.out.le
        have hlen := HGD.out.len
        have c2 := HGD.out.lf.rdr.c2
        by_cases h44 : ba s q = 44
        · have H44 := Lib.hid h44
          have hq1 : q < s.size := ba_lt (by omega)
          clear h44
          go_wp2_with fail
          refine (is_yes g q s 44 false wr HGD.out.lf.rdr (by omega) H44.out hs).mono ?_
          rintro e w6 ⟨rfl, hr6, hg6⟩
          have HL6 := Lib.hid (HGD.out.lf.reader hg6 hr6 hgw)
          have HG6 := Lib.hid hg6
          clear hr6 hg6 c2
          go_wp2_with fail
          have v1 := HL6.out.out.c1
          go_region_law (first
            | (refine step_append_lies _ (by rfl) _ _ _ (by rfl) w.heap.size 97 i0 _ 2 32 Try.underlying95 hi0 hz0 hz1 hz2 rfl (by omega) _ xs.length (flat2 xs) (by rfl) own8 ⟨w9.heap.size, 0, none⟩ 1 1 [.int .i64 m9, .slice A9 k9 c9] (by rfl) (by rfl) (World.news_of_block (cs := #[.int .i64 m9, .slice A9 k9 c9]) (t := 97) (fr := (0, 0)) (heap_alloc_new w9 _)) (by simp [Value.oneCell']) (by omega) (by simp [maxLen]; omega) (by omega) (by simp; omega) (w9.heap.size + 1) (by simp) ?_
               intro gx cax w10 hown10 hg10 hat10 hlt10
               have t10 := slf_cell (o := .cells #[.int .i64 m9, .slice A9 k9 c9] 97) HL6.out HG9.out hgw hg10
               have o10 := t10.c1
               have f10 := t10.f 1
               have HO10 := Lib.hid hown10
               have HG10 := Lib.hid hg10
               have HA10 := Lib.hid hat10
               clear hown10 hg10 hat10 hlt10 t10)
            | (go_simp
               go_at_call 95
               refine (HI.out (q + 1) _ (HL6.out.rdr.drewN _) (by omega)).mono ?_
               rintro e w9 ⟨hg9, m9, v9, rfl, ⟨A9, k9, c9, rfl⟩, hcase9⟩
               have HG9 := Lib.hid ((gr_drewN w6 _ _).trans hg9)
               have hb9 := HG9.out.size
               have hb6 := HL6.out.size
               have o9 := (HL6.out.out.grown HG9.out (by simp; omega)).c1
               have o9b := ((HL6.out.out.grown HG9.out (by simp; omega)).alloc (.cells #[.int .i64 m9, .slice A9 k9 c9] 97)).c1
               have own8 := slf_own HL6.out HG9.out hgw (.cells #[.int .i64 m9, .slice A9 k9 c9] 97)
               have HC9 := Lib.hid hcase9
               clear hg9 hcase9))
          all_goals
            have hgo := HGD.out.goes H44.out
            have hall := All2.mono (SNd.keep (w := wr) (w' := w6) (fun b hb hb2 => HG6.out.block b hb2 (by simp; omega)) (fun b hb _ => hb) d) ts xs HGD.out.all
            obtain ⟨q3, b3, hS3, hq3⟩ := sloop_step (p := p) HL6.out hall (pe := q + 1) (by omega) hgo.1 hgo.2 HG9.out HC9.out HO10.out HG10.out HA10.out hgw
            have HS3 := Lib.hid hS3
            have HQ3 := Lib.hid hq3
            clear hS3 hq3 hgo hall HO10 HG10 HA10 v1 o9 o9b o10 f10 own8 HC9
            go_wp2_with fail
            go_roundw
            case rel => exact ⟨_, _, _, _, HS3⟩
            case measure =>
              rw [mS_good HGD.out.lf.rdr]
              cases b3
              · rw [mS_good HS3.out.1.rdr]
                have := HQ3.out rfl
                omega
              · rw [mS_bad HS3.out.1.rdr]
                omega
        · have H44 := Lib.hid h44
          clear h44
          go_wp2_with fail
          refine (is_no g q s 44 false wr HGD.out.lf.rdr H44.out).mono ?_
          rintro e w6 ⟨rfl, n6, rfl⟩
          have hne : ¬ g = w.heap.size := by omega
          have hne2 : ¬ g = w.heap.size + 1 + 1 := by omega
          go_wp2_with fail
          clear c2
          by_cases h93 : ba s q = 93
          · have H93 := Lib.hid h93
            clear h93
            refine (is_yes g q s 93 false _ (HGD.out.lf.rdr.drewN n6) (by omega) H93.out hs).mono ?_
            rintro e w7' ⟨rfl, hr7, hg7⟩
            have hl7 := (HGD.out.lf.drewN n6).reader hg7 hr7 hgw
            have c2 := hr7.c2
            have cf := hr7.f 2
            have r0 := hl7.res.c0
            have r1 := hl7.res.c1
            have u0 := hl7.out.c0
            have u1 := hl7.out.c1
            have f0 := hl7.res.f 0
            have f1 := hl7.res.f 1
            have HR7 := Lib.hid hr7
            have HG7b := Lib.hid hg7
            clear hr7 hg7 hl7
            go_wp2_with fail
            refine bodyPost_ret (v := .agg #[.int .i64 0, .slice A k c]) (by simp [results, Try.results95, go_sem, r0, r1]) rfl ?_
            exact HGD.out.end_good H93.out (((gr_drewN wr n6 _).trans HG7b.out).trans (gr_set w7' g 2 (.bool false))) (HR7.out.set2 false) hgw
          · have H93 := Lib.hid h93
            clear h93
            refine (is_no g q s 93 false _ (HGD.out.lf.rdr.drewN n6) H93.out).mono ?_
            rintro e w7' ⟨rfl, n7, rfl⟩
            have c2 := HGD.out.lf.rdr.c2
            have cf := HGD.out.lf.rdr.f 2
            have r0 := HGD.out.lf.res.c0
            have r1 := HGD.out.lf.res.c1
            have u0 := HGD.out.lf.out.c0
            have u1 := HGD.out.lf.out.c1
            have f0 := HGD.out.lf.res.f 0
            have f1 := HGD.out.lf.res.f 1
            go_wp2_with fail
            refine bodyPost_ret (v := .agg #[.int .i64 0, .slice A k c]) (by simp [results, Try.results95, go_sem, r0, r1]) rfl ?_
            exact HGD.out.lf.end_bad (HGD.out.stop H93.out H44.out) ((gr_drewN wr _ _).trans (gr_set _ g 2 (.bool true))) ((HGD.out.lf.rdr.drewN _).set2 true) hgw
      · have hn : parts s (node s d) p = none := by
          rcases hL.out.2 with ⟨h, _⟩ | ⟨_, h⟩
          · cases h
          · exact h
        have HN := Lib.hid hn
        clear hn
        have c2 := hL.out.1.rdr.c2
        have cf := hL.out.1.rdr.f 2
        have r0 := hL.out.1.res.c0
        have r1 := hL.out.1.res.c1
        have u0 := hL.out.1.out.c0
        have u1 := hL.out.1.out.c1
        have f0 := hL.out.1.res.f 0
        have f1 := hL.out.1.res.f 1
        have hne : ¬ g = w.heap.size := by omega
        have hne2 : ¬ g = w.heap.size + 1 + 1 := by omega
        go_wp2_with fail
        refine bodyPost_ret (v := .agg #[.int .i64 0, .slice A k c]) (by simp [results, Try.results95, go_sem, r0, r1]) rfl ?_
        exact hL.out.1.end_bad HN.out (gr_set wr g 2 (.bool true)) (hL.out.1.rdr.set2 true) hgw
end

/- SRead -/
section
open Go.RowKit

set_option maxHeartbeats 400000 in
theorem snode_n1 (g p d : Nat) (n : Int) (s : ByteArray) (w : World) (h : SRdr w g s p false) (hn1 : 1 ≤ n) (hc : ba s p ≠ 91) :
    Calls Try.prog 95 #[.pointer (some ⟨g, 0, none⟩), .int .i64 n] w (SArrPost s (d + 1) p g w) := by
  have HR := Lib.hid h
  have hgw := h.lt
  have HC := Lib.hid hc
  have e0 : (n == 0) = false := by rw [beq_eq_false_iff_ne]; omega
  clear h hc
  go_enter Try.func95, Try.ntmps95
  go_wp2_with fail
  clear e0
  refine (is_no g p s 91 false _ (((HR.out.alloc _).alloc _).alloc _) HC.out).mono ?_
  have HB := Lib.hid (begun w)
  have HR3 := Lib.hid (((HR.out.alloc (.cells #[.int .i64 0, .slice none 0 0] 97)).alloc (.cells #[] 97)).alloc (.cells #[.int .i64 0, .slice (some ⟨w.heap.size + 1, 0, none⟩) 0 0] 97))
  generalize ((w.alloc (.cells #[.int .i64 0, .slice none 0 0] 97)).alloc (.cells #[] 97)).alloc (.cells #[.int .i64 0, .slice (some ⟨w.heap.size + 1, 0, none⟩) 0 0] 97) = w3 at HB HR3
  rintro e w4 ⟨rfl, n4, rfl⟩
  have HL := Lib.hid (slf_start HB.out HR3.out)
  have c2 := HL.out.rdr.c2
  have cf := HL.out.rdr.f 2
  have r0 := HL.out.res.c0
  have r1 := HL.out.res.c1
  have u0 := HL.out.out.c0
  have u1 := HL.out.out.c1
  have f0 := HL.out.res.f 0
  have f1 := HL.out.res.f 1
  have hne : ¬ g = w.heap.size := by omega
  have hne2 : ¬ g = w.heap.size + 1 + 1 := by omega
  go_wp2_with fail
  refine bodyPost_ret (v := .agg #[.int .i64 0, .slice (some ⟨w.heap.size + 1, 0, none⟩) 0 0]) (by simp [results, Try.results95, go_sem, r0, r1]) rfl ?_
  exact HL.out.end_bad (parts_n1 HC.out) ((gr_drewN w3 _ _).trans (gr_set _ g 2 (.bool true))) ((HL.out.rdr.drewN _).set2 true) hgw

theorem parts_more {s : ByteArray} {d p : Nat} (h : ba s p = 91) (h2 : ba s (p + 1) = 93) : parts s (node s d) p = cons' [] (more s (node s d) (s.size + 1) (p + 1)) := by
  rw [parts_e h h2, more, if_pos h2]
  rfl

set_option maxHeartbeats 400000 in
theorem snode_e (g p d : Nat) (n : Int) (s : ByteArray) (w : World) (h : SRdr w g s p false) (hs : s.size ≤ 400) (hn1 : 1 ≤ n) (hc : ba s p = 91) (hc2 : ba s (p + 1) = 93) :
    Calls Try.prog 95 #[.pointer (some ⟨g, 0, none⟩), .int .i64 n] w (SArrPost s (d + 1) p g w) := by
  have HR := Lib.hid h
  have hgw := h.lt
  have HC := Lib.hid hc
  have HC2 := Lib.hid hc2
  have hp1 : p < s.size := ba_lt (by omega)
  have e0 : (n == 0) = false := by rw [beq_eq_false_iff_ne]; omega
  clear h hc hc2
  go_enter Try.func95, Try.ntmps95
  go_wp2_with fail
  clear e0
  refine (is_yes g p s 91 false _ (((HR.out.alloc _).alloc _).alloc _) (by omega) HC.out hs).mono ?_
  have HB := Lib.hid (begun w)
  have HR3 := Lib.hid (((HR.out.alloc (.cells #[.int .i64 0, .slice none 0 0] 97)).alloc (.cells #[] 97)).alloc (.cells #[.int .i64 0, .slice (some ⟨w.heap.size + 1, 0, none⟩) 0 0] 97))
  generalize ((w.alloc (.cells #[.int .i64 0, .slice none 0 0] 97)).alloc (.cells #[] 97)).alloc (.cells #[.int .i64 0, .slice (some ⟨w.heap.size + 1, 0, none⟩) 0 0] 97) = w3 at HB HR3
  rintro e w4 ⟨rfl, hr4, hg4⟩
  have HL4 := Lib.hid ((slf_start HB.out HR3.out).reader hg4 hr4 hgw)
  clear hr4 hg4
  go_wp2_with fail
  refine (is_yes g (p + 1) s 93 false w4 HL4.out.rdr (by omega) HC2.out hs).mono ?_
  rintro e w5 ⟨rfl, hr5, hg5⟩
  have hl5 := HL4.out.reader hg5 hr5 hgw
  have r0 := hl5.res.c0
  have r1 := hl5.res.c1
  have u0 := hl5.out.c0
  have u1 := hl5.out.c1
  have f0 := hl5.res.f 0
  have f1 := hl5.res.f 1
  have HG := Lib.hid (show SLg s d p g w w4 (.slice (some ⟨w.heap.size + 1, 0, none⟩) 0 0) [] [] (s.size + 1) (p + 1) from ⟨HL4.out, by omega, by omega, parts_more HC.out HC2.out, Nat.zero_le _, trivial⟩)
  have HR5 := Lib.hid hr5
  have HG5 := Lib.hid hg5
  clear hr5 hg5 hl5
  go_wp2_with fail
  refine bodyPost_ret (v := .agg #[.int .i64 0, .slice (some ⟨w.heap.size + 1, 0, none⟩) 0 0]) (by simp [results, Try.results95, go_sem, r0, r1]) rfl ?_
  exact HG.out.end_good HC2.out HG5.out HR5.out hgw

theorem snode_any (g : Nat) (s : ByteArray) (hs : s.size ≤ 400) : ∀ (d : Nat) (n : Int) (p : Nat) (w : World), n = d → d ≤ 1000 → SRdr w g s p false → p ≤ s.size →
    Calls Try.prog 95 #[.pointer (some ⟨g, 0, none⟩), .int .i64 n] w (SArrPost s d p g w)
  | 0, n, p, w, hn, _, h, hp => by obtain rfl : n = 0 := hn; exact snode0 g p s w h hs hp
  | d + 1, n, p, w, hn, hd, h, hp => by
    by_cases hc : ba s p = 91
    · by_cases hc2 : ba s (p + 1) = 93
      · exact snode_e g p d n s w h hs (by omega) hc hc2
      · exact snode_main g p d n s w h hs (by omega) (by omega) hc hc2 (fun p w h hp => snode_any g s hs d (n - 1) p w (by omega) (by omega) h hp)
    · exact snode_n1 g p d n s w h (by omega) hc
end

/- L1Read -/
section
open Go.RowKit

def SReadNo (w : World) (e : Ending) (w' : World) : Prop := e = .returned (.tuple #[.agg #[.int .i64 0, .slice none 0 0], .bool false]) ∧ w.grownBy w' none
def SReadPost (s : ByteArray) (d : Nat) (w : World) (e : Ending) (w' : World) : Prop := match readN s d with
  | some t => ∃ m sv, e = .returned (.tuple #[.agg #[.int .i64 m, sv], .bool true]) ∧ (∃ A k c, sv = .slice A k c) ∧ w.grownBy w' none ∧ SNd w' (fun b => w.heap.size ≤ b) d t (m, sv)
  | none => SReadNo w e w'

theorem sread_no {s : ByteArray} {d : Nat} {w w' : World} {e : Ending} (hr : readN s d = none) (he : e = .returned (.tuple #[.agg #[.int .i64 0, .slice none 0 0], .bool false])) (hg : w.grownBy w' none) : SReadPost s d w e w' := by
  unfold SReadPost
  rw [hr]
  exact ⟨he, hg⟩
theorem sread_yes {s : ByteArray} {d : Nat} {t : T d} {w w' : World} {e : Ending} {m : Int} {A : Option Addr} {k c : Nat} (hr : readN s d = some t) (he : e = .returned (.tuple #[.agg #[.int .i64 m, .slice A k c], .bool true])) (hg : w.grownBy w' none) (ha : SNd w' (fun b => w.heap.size ≤ b) d t (m, .slice A k c)) : SReadPost s d w e w' := by
  unfold SReadPost
  rw [hr]
  exact ⟨m, _, he, ⟨_, _, _, rfl⟩, hg, ha⟩

set_option maxHeartbeats 400000 in
theorem sread_out (n : Int) (s : ByteArray) (w : World) (h : n < 0 ∨ 3 < n ∨ 400 < s.size) :
    Calls Try.prog 71 #[.string s, .int .i64 n] w (SReadNo w) := by
  by_cases hn : 0 ≤ n ∧ n ≤ 3
  · have hs : 400 < s.size := by omega
    have HI := Lib.hid (fun w => in_any n 0 3 true (decide_eq_true hn) w)
    clear hn h
    go_enter Try.func71, Try.ntmps71
    go_wp2_with fail
    refine (HI.out _).mono ?_
    rintro e w1 ⟨rfl, rfl⟩
    go_wp2_with fail
    refine bodyPost_ret (v := .tuple #[.agg #[.int .i64 0, .slice none 0 0], .bool false]) (by simp [results, Try.results71, go_sem]) rfl ?_
    exact ⟨rfl, World.grownBy_alloc _ _ _⟩
  · have HI := Lib.hid (fun w => in_any n 0 3 false (decide_eq_false hn) w)
    clear hn h
    go_enter Try.func71, Try.ntmps71
    go_wp2_with fail
    refine (HI.out _).mono ?_
    rintro e w1 ⟨rfl, rfl⟩
    go_wp2_with fail
    refine bodyPost_ret (v := .tuple #[.agg #[.int .i64 0, .slice none 0 0], .bool false]) (by simp [results, Try.results71, go_sem]) rfl ?_
    exact ⟨rfl, World.grownBy_alloc _ _ _⟩

theorem srdr_new {w : World} {k : Nat} (s : ByteArray) (hk : w.heap.size = k) : SRdr (w.alloc (.cells #[.string s, .int .i64 0, .bool false] 134)) k s 0 false := by
  subst hk
  exact heap_alloc_new _ _

set_option maxHeartbeats 1000000 in
theorem sread_in (n : Int) (d : Nat) (s : ByteArray) (w : World) (hnd : n = d) (h0 : 0 ≤ n) (h3 : n ≤ 3) (hs : s.size ≤ 400) :
    Calls Try.prog 71 #[.string s, .int .i64 n] w (SReadPost s d w) := by
  have HI := Lib.hid (fun w => in_any n 0 3 true (decide_eq_true ⟨h0, h3⟩) w)
  have HND := Lib.hid hnd
  have hd3 : d ≤ 3 := by omega
  clear hnd
  go_enter Try.func71, Try.ntmps71
  go_wp2_with fail
  refine (HI.out _).mono ?_
  rintro e w1 ⟨rfl, rfl⟩
  go_wp2_with fail
  refine (snode_any _ s hs d n 0 _ HND.out (by omega) (srdr_new s (by simp)) (Nat.zero_le _)).mono ?_
  rintro e w4 ⟨hg4, m, sv, rfl, ⟨A, k, c, rfl⟩, hcase⟩
  have hR : Two ((w.alloc (.cells #[.int .i64 0, .slice none 0 0] 97)).alloc (.cells #[.string s, .int .i64 0, .bool false] 134)) w.heap.size (.int .i64 0) (.slice none 0 0) := (two_new w _ _ rfl).alloc _
  have hz4 := hg4.size
  simp at hz4
  have HRES := Lib.hid (hR.grown hg4 (by simp))
  have HGR := Lib.hid (gr_new ((World.grownBy_alloc w (.cells #[.int .i64 0, .slice none 0 0] 97) none).trans (World.grownBy_alloc _ (.cells #[.string s, .int .i64 0, .bool false] 134) none)) hg4 (by omega))
  have hR5 := HRES.out.alloc (.cells #[.int .i64 m, .slice A k c] 97)
  have r0 := hR5.c0
  have r1 := hR5.c1
  have f0 := hR5.f 0
  have f1 := hR5.f 1
  have HG5 := Lib.hid (HGR.out.trans (World.grownBy_alloc w4 (.cells #[.int .i64 m, .slice A k c] 97) none))
  clear hR hR5
  rcases hcase with ⟨t, q, hn, hr, hnd⟩ | ⟨hn, q, hr⟩
  · have hqs := node_ge s d 0 t q hn
    have HN := Lib.hid hn
    have HR4 := Lib.hid hr
    have HA := Lib.hid hnd
    have c2 := (hr.alloc (.cells #[.int .i64 m, .slice A k c] 97)).c2
    have c1 := (hr.alloc (.cells #[.int .i64 m, .slice A k c] 97)).c1
    clear hn hr hnd hg4
    by_cases hend : q = s.size
    · have hb : ((q : Int) != (s.size : Int)) = false := by rw [hend]; simp
      have HE := Lib.hid hend
      clear hend
      go_wp2_with fail
      refine bodyPost_ret (v := .tuple #[.agg #[.int .i64 m, .slice A k c], .bool true]) (by simp [results, Try.results71, go_sem, r0, r1]) rfl ?_
      refine sread_yes (by rw [readN, HN.out]; exact if_pos HE.out) rfl (gr_set_new (gr_set_new HG5.out (Nat.le_refl _) _) (Nat.le_refl _) _) (SNd.keep ?_ ?_ d t _ HA.out)
      · intro b hb hb2
        simp at hb
        rw [Below.heap_setCell _ _ _ _ (by simp; omega), Below.heap_setCell _ _ _ _ (by simp; omega)]
        exact Below.heap_alloc _ _ _ hb2
      · intro b hb _
        simp at hb
        omega
    · have hb : ((q : Int) != (s.size : Int)) = true := by rw [bne_iff_ne]; omega
      have HE := Lib.hid hend
      clear hend
      go_wp2_with fail
      refine bodyPost_ret (v := .tuple #[.agg #[.int .i64 0, .slice none 0 0], .bool false]) (by simp [results, Try.results71, go_sem, r0, r1]) rfl ?_
      exact sread_no (by rw [readN, HN.out]; exact if_neg HE.out) rfl (gr_set_new (gr_set_new HG5.out (Nat.le_refl _) _) (Nat.le_refl _) _)
  · have HN := Lib.hid hn
    have c2 := (hr.alloc (.cells #[.int .i64 m, .slice A k c] 97)).c2
    clear hn hr hg4
    go_wp2_with fail
    refine bodyPost_ret (v := .tuple #[.agg #[.int .i64 0, .slice none 0 0], .bool false]) (by simp [results, Try.results71, go_sem, r0, r1]) rfl ?_
    exact sread_no (by rw [readN, HN.out]) rfl (gr_set_new (gr_set_new HG5.out (Nat.le_refl _) _) (Nat.le_refl _) _)

/-- Is the text an array of the depth? -/
def isArr (s : ByteArray) (n : Int) : Bool := decide (0 ≤ n ∧ n ≤ 3 ∧ s.size ≤ 400) && (readN s n.toNat).isSome
end

/- LayImpl -/
section
open Go.RowKit

/-- How LayOut of the program ends. -/
def LIPost (s : ByteArray) (n : Int) (w : World) (e : Ending) (w' : World) : Prop :=
  (isArr s n = false ∧ e = .returned (.tuple #[.agg #[.slice none 0 0, .slice none 0 0], .bool false]) ∧ w.grownBy w' none) ∨
  (isArr s n = true ∧ ∃ t u, readN s n.toNat = some t ∧ e = .returned (.tuple #[u, .bool true]) ∧ w.grownBy w' none ∧ OwnLyt w' w.heap.size u (lv n.toNat [t]) (dat n.toNat [t]))

theorem flat_start {w w1 : World} {d g : Nat} (hg : w.heap.size ≤ w1.heap.size) (h : w1.ownsRow w.heap.size 23 1 (.slice (some ⟨g, 0, none⟩) d d) d (List.replicate d (.slice none 0 0))) :
    Flat (w1.alloc (.cells #[.slice none 0 0, .slice (some ⟨g, 0, none⟩) d d] 70)) w.heap.size w1.heap.size (.slice none 0 0) (List.replicate d []) [] := by
  have hp := Pr.new w1 70 (.slice none 0 0) (.slice (some ⟨g, 0, none⟩) d d)
  refine ⟨g, d, by rw [List.length_replicate]; exact hp, ⟨List.replicate d (.slice none 0 0), ?_, ?_⟩, by simp; omega, hg⟩
  · rw [List.length_replicate]
    exact h.alloc _
  · have e1 : List.replicate d (Value.slice none 0 0) ++ [.slice none 0 0] = List.replicate (d + 1) (.slice none 0 0) := by rw [List.replicate_succ']
    have e2 : List.replicate d ([] : List Int) ++ [[]] = List.replicate (d + 1) [] := by rw [List.replicate_succ']
    rw [e1, e2]
    refine ⟨by simp, fun i v L hv hL => ?_, fun i j v u g _ hv _ hg => ?_⟩
    · rw [List.getElem?_replicate] at hv hL
      split at hv
      · rename_i hi
        rw [if_pos hi] at hL
        cases hv
        cases hL
        exact World.ownsRow_nil _ _ _ _
      · cases hv
    · rw [List.getElem?_replicate] at hv
      split at hv
      · cases hv; cases hg
      · cases hv

theorem OwnLyt.box {w w' : World} {base g0 : Nat} {u : Value} {LL : List (List Int)} {D : List Int} {x y : Value} (h : OwnLyt w base u LL D) (hp : Pr w g0 25 x y) (hg : w.grownBy w' (some g0)) : OwnLyt w' base u LL D := by
  obtain ⟨A, c, d, vs, rfl, hc, ho, hf⟩ := h
  exact ⟨A, c, d, vs, rfl, hc, own_box ho hp (by decide) hg, hf.box hp (by decide) hg⟩
theorem OwnLyt.low {w : World} {base base' : Nat} {u : Value} {LL : List (List Int)} {D : List Int} (h : OwnLyt w base u LL D) (hb : base' ≤ base) : OwnLyt w base' u LL D := by
  obtain ⟨A, c, d, vs, rfl, hc, ho, hf⟩ := h
  exact ⟨A, c, d, vs, rfl, hc, own_base ho hb, hf.low hb⟩

set_option maxRecDepth 100000 in
set_option maxHeartbeats 1000000 in
theorem layout_impl (s : ByteArray) (n : Int) (w : World) : Calls Try.prog 8 #[.string s, .int .i64 n] w (LIPost s n w) := by
  by_cases h : 0 ≤ n ∧ n ≤ 3 ∧ s.size ≤ 400
  · obtain ⟨d, hd⟩ : ∃ d : Nat, n = d := ⟨n.toNat, by omega⟩
    subst hd
    have hdn : (d : Int).toNat = d := Int.toNat_natCast d
    have hd3 : d ≤ 3 := by omega
    have HC := Lib.hid (fun u => nest_in (d : Int) d s u rfl (by omega) (by omega) h.2.2)
    unfold LIPost
    rw [hdn]
    cases hr : readN s d with
    | none =>
      have hv : isArr s d = false := by unfold isArr; rw [hdn, hr]; simp
      have HR := Lib.hid hr
      have HV := Lib.hid hv
      clear h hv hr hdn
      go_enter Try.func8, Try.ntmps8
      go_wp2_with fail
      refine (HC.out _).mono ?_
      intro e w1 hp
      unfold NestPost at hp
      rw [HR.out] at hp
      obtain ⟨rfl, hg⟩ := hp
      have HG := Lib.hid ((World.grownBy_alloc w (.cells #[.slice none 0 0, .slice none 0 0] 25) none).trans hg)
      have HP := Lib.hid ((Pr.new w 25 (.slice none 0 0) (.slice none 0 0)).grown hg (by simp))
      have r0 := HP.out.c0
      have r1 := HP.out.c1
      have r2 := HP.out.f 0
      have r3 := HP.out.f 1
      clear hg
      go_wp2_with fail
      have T1 := (HP.out.set0 (.slice none 0 0)).set1 (.slice none 0 0)
      have q0 := T1.c0
      have q1 := T1.c1
      refine bodyPost_ret (v := .tuple #[.agg #[.slice none 0 0, .slice none 0 0], .bool false]) (by simp [results, Try.results8, go_sem, q0, q1]) rfl ?_
      exact .inl ⟨HV.out, rfl, gr_ownF HG.out ((gr_set w1 w.heap.size 0 (.slice none 0 0)).trans (gr_set _ w.heap.size 1 (.slice none 0 0))) (fun k hk => by cases hk; exact Nat.le_refl _)⟩
    | some t =>
      have hv : isArr s d = true := by unfold isArr; rw [hdn, hr]; simp; omega
      have HR := Lib.hid hr
      have HV := Lib.hid hv
      have HSH := Lib.hid (lv_short (readN_short hr h.2.2))
      clear h hv hr hdn
      have HFO := Lib.hid (fun u => fod_any d u (by omega))
      go_enter Try.func8, Try.ntmps8
      go_wp2_with fail
      refine (HC.out _).mono ?_
      intro e w1 hp
      unfold NestPost at hp
      rw [HR.out] at hp
      obtain ⟨v, rfl, hg, ha⟩ := hp
      have HG := Lib.hid ((World.grownBy_alloc w (.cells #[.slice none 0 0, .slice none 0 0] 25) none).trans hg)
      have HP := Lib.hid ((Pr.new w 25 (.slice none 0 0) (.slice none 0 0)).grown hg (by simp))
      have HA := Lib.hid ha
      clear hg ha
      go_wp2_with fail
      refine (HFO.out _).mono ?_
      rintro e w2 ⟨gR, rfl, hg2, _, hr2⟩
      have hfl := flat_start hg2.size hr2
      have hgu : w1.grownBy (w2.alloc (.cells #[.slice none 0 0, .slice (some ⟨gR, 0, none⟩) d d] 70)) none := hg2.trans (World.grownBy_alloc _ _ _)
      have HGU := Lib.hid hgu
      have HFL := Lib.hid hfl
      clear hfl hgu hg2 hr2
      go_wp2_with fail
      have hgu := HGU.out
      have hfl := HFL.out
      generalize w2.alloc (.cells #[.slice none 0 0, .slice (some ⟨gR, 0, none⟩) d d] 70) = u0 at hgu hfl ⊢
      have hrep : RepI u0 (fun b => b < w1.heap.size) d t v := RepI.keep (fun b _ hb => hgu.block b hb (by simp)) (fun b _ hb => hb) d t v HA.out
      have hlay := lay_any d t w2.heap.size w1.heap.size 0 (fun b => b < w1.heap.size) v (.slice none 0 0) (List.replicate d []) [] u0 hfl hrep (fun b hb => hb) (by simp) (by omega) HSH.out.1 HSH.out.2
      refine hlay.mono ?_
      rintro e w3 ⟨rfl, hb3, d3, hf3⟩
      have e1 : behind 0 (List.replicate d []) (lv d [t]) = lv d [t] := by rw [behind, List.take_zero, List.nil_append, List.drop_zero, lv_zero_add]
      rw [e1, List.nil_append] at hf3
      have hsh := HSH.out
      rw [e1, List.nil_append] at hsh
      have HG3 := Lib.hid (HG.out.trans (gr_below hgu hb3))
      have HP3 := Lib.hid (HP.out.grown (gr_below hgu hb3) (by simp))
      obtain ⟨g, c, hp3, hl3, _, _⟩ := hf3
      obtain ⟨⟨A8, c8, rfl, hi8, hd8, hn8⟩, hrw8, hcl8⟩ := hl3.reads
      have hlv := lv_len d [t]
      have HLY := Lib.hid (layout_any (some ⟨g, 0, none⟩) A8 c c8 (lv d [t]) (dat d [t]) w3 hrw8 hi8 (by rw [hlv]; omega) (fun M hM => by
        obtain ⟨i, hi⟩ := List.getElem?_of_mem hM
        have := hsh.1 i M hi; omega) (by have := hsh.2; omega) hd8 hn8 hcl8)
      have c0 := hp3.c0
      have c1 := hp3.c1
      obtain ⟨k, hk⟩ : ∃ k, (dat d [t]).length = k := ⟨_, rfl⟩
      rw [hk] at c0 HLY
      rw [hlv] at c1 HLY
      clear hgu hfl hrep hlay hb3 e1 hsh hp3 hl3 hi8 hd8 hn8 hrw8 hcl8
      go_wp2_with fail
      refine HLY.out.mono ?_
      rintro e w4 ⟨u, rfl, hg4, ho4⟩
      have HG4 := Lib.hid (HG3.out.trans hg4)
      have HO4 := Lib.hid ho4
      have HS3 := Lib.hid HG3.out.size
      have hp4 := HP3.out.grown hg4 (by simp)
      obtain ⟨A9, c9, d9, vs9, rfl, _, how9, hfm⟩ := id ho4
      obtain ⟨v9, hv9, B9, e9, hve, _⟩ := hfm.1 _ (dat d [t]) (Nat.lt_succ_self _) (by simp)
      have hd9 : ∃ m9, d9 = .slice B9 m9 e9 := by
        have hl9 : vs9.length = (lv d [t]).length := by
          have := how9.1
          omega
        rw [← hl9, List.getElem?_concat_length, Option.some.injEq] at hv9
        exact ⟨_, hv9.trans hve⟩
      obtain ⟨m9, rfl⟩ := hd9
      rw [hlv] at ho4 ⊢
      have HO5 := Lib.hid ho4
      have HP4 := Lib.hid hp4
      have r0 := hp4.c0
      have r1 := hp4.c1
      have r2 := hp4.f 0
      have r3 := hp4.f 1
      clear hg4 ho4 hp4 hfm hv9 hve how9 hlv HO4
      go_wp2_with fail
      have T1 := (HP4.out.set0 (.slice A9 d c9)).set1 (.slice B9 m9 e9)
      have q0 := T1.c0
      have q1 := T1.c1
      have hs1 := (gr_set w4 w.heap.size 0 (.slice A9 d c9)).trans (gr_set (w4.setCell ⟨w.heap.size, 0, none⟩ (.slice A9 d c9)) w.heap.size 1 (.slice B9 m9 e9))
      refine bodyPost_ret (v := .tuple #[.agg #[.slice A9 d c9, .slice B9 m9 e9], .bool true]) (by simp [results, Try.results8, go_sem, q0, q1]) rfl ?_
      clear q0 q1 r0 r1 r2 r3 T1
      have hfin := (HO5.out.box HP4.out hs1).low HS3.out
      have hgf := gr_ownF HG4.out hs1 (fun k hk => by cases hk; exact Nat.le_refl _)
      exact .inr ⟨HV.out, t, _, rfl, rfl, hgf, hfin⟩
  · have h' : n < 0 ∨ 3 < n ∨ 400 < s.size := by omega
    have hv : isArr s n = false := by unfold isArr; rw [decide_eq_false h]; rfl
    have HC := Lib.hid (fun u => nest_out n s u h')
    have HV := Lib.hid hv
    clear h h' hv
    go_enter Try.func8, Try.ntmps8
    go_wp2_with fail
    refine (HC.out _).mono ?_
    rintro e w1 ⟨rfl, hg⟩
    have HG := Lib.hid ((World.grownBy_alloc w (.cells #[.slice none 0 0, .slice none 0 0] 25) none).trans hg)
    have HP := Lib.hid ((Pr.new w 25 (.slice none 0 0) (.slice none 0 0)).grown hg (by simp))
    have r0 := HP.out.c0
    have r1 := HP.out.c1
    have r2 := HP.out.f 0
    have r3 := HP.out.f 1
    clear hg
    go_wp2_with fail
    have T1 := (HP.out.set0 (.slice none 0 0)).set1 (.slice none 0 0)
    have q0 := T1.c0
    have q1 := T1.c1
    refine bodyPost_ret (v := .tuple #[.agg #[.slice none 0 0, .slice none 0 0], .bool false]) (by simp [results, Try.results8, go_sem, q0, q1]) rfl ?_
    exact .inl ⟨HV.out, rfl, gr_ownF HG.out ((gr_set w1 w.heap.size 0 (.slice none 0 0)).trans (gr_set _ w.heap.size 1 (.slice none 0 0))) (fun k hk => by cases hk; exact Nat.le_refl _)⟩
end

/- VPick -/
section
open Go.RowKit

/-- How PickVector ends. -/
def PickP (k : Int) (LL : List (List Int)) (D a : List Int) (w : World) (e : Ending) (w' : World) : Prop := w.grownBy w' none ∧
  if pickB k LL D a = true then ∃ u, e = .returned (.tuple #[u, .bool true]) ∧ OwnVct w' w.heap.size u (a.length : Int) (lv LL.length (pickT LL D a)) (dat LL.length (pickT LL D a))
  else e = .returned (.tuple #[.agg #[.int .i64 0, .slice none 0 0, .slice none 0 0], .bool false])
theorem pickP_no {k : Int} {LL : List (List Int)} {D a : List Int} {w w' : World} {e : Ending} (h : pickB k LL D a = false) (hg : w.grownBy w' none) (he : e = .returned (.tuple #[.agg #[.int .i64 0, .slice none 0 0, .slice none 0 0], .bool false])) : PickP k LL D a w e w' := by
  refine ⟨hg, ?_⟩
  rw [h]
  exact he
theorem pickP_yes {k : Int} {LL : List (List Int)} {D a : List Int} {w w' : World} {e : Ending} {u : Value} (h : pickB k LL D a = true) (hg : w.grownBy w' none) (he : e = .returned (.tuple #[u, .bool true])) (hv : OwnVct w' w.heap.size u (a.length : Int) (lv LL.length (pickT LL D a)) (dat LL.length (pickT LL D a))) : PickP k LL D a w e w' := by
  refine ⟨hg, ?_⟩
  rw [if_pos h]
  exact ⟨u, he, hv⟩
/-- An array that was cut off, as it is added. -/
theorem arf_reads {base B d : Nat} {t : T d} {w : World} {x y : Value} (h : ArF base B d t w x y) : ∃ A cA P cP, x = .slice A (dat d [t]).length cA ∧ y = .slice P d cP ∧ Ints w A (dat d [t]) ∧ Rws w P (lv d [t]) := by
  obtain ⟨hx, P, cP, ps, rfl, ho, hp⟩ := h
  obtain ⟨A, c, rfl⟩ := hx.form
  obtain ⟨_, _, h2, _⟩ := hx.ints
  refine ⟨A, c, P, cP, rfl, rfl, h2, fun hl => ?_⟩
  rw [lv_len] at hl
  rcases ho.2 with ⟨hv, hn⟩ | ⟨g, cap, cur, hv, _, hg, _⟩
  · omega
  · cases hv
    refine ⟨g, 0, rfl, (Array.getElem?_eq_some_iff.1 hg).1, fun j L hj => ?_⟩
    obtain ⟨v, hv, hs⟩ := hp j L hj
    obtain ⟨A2, c2, rfl⟩ := hs.form
    obtain ⟨_, h6, h7, _⟩ := hs.ints
    have hpl : ps.length = d := by have := ho.1; omega
    have hcell := ho.cells (g := g) rfl j _ hv
    rw [addr_flat] at hcell
    exact ⟨A2, c2, by simpa using hcell, h6, h7⟩
theorem lv_noneP : ∀ d, lv d [] = List.replicate d []
  | 0 => rfl
  | d + 1 => by simp [lv, lv_noneP d, List.replicate_succ]
theorem below_gr {w u w' : World} (h : w.grownBy u none) (hb : Below u.heap.size u w') : w.grownBy w' none :=
  ⟨hb.os.trans h.os, hb.tape.trans h.tape, hb.output.trans h.output, Nat.le_trans h.size hb.size, fun k hk _ => (hb.block k (Nat.lt_of_lt_of_le hk h.size)).trans (h.block k hk (by simp))⟩
theorem sz_row {d : Nat} {ts : List (T d)} {j : Nat} {L : List Int} (h : (lv d ts)[j]? = some L) : L.length ≤ szN d ts := by
  have := totL_at h
  unfold szN
  omega

set_option maxRecDepth 100000 in
set_option maxHeartbeats 4000000 in
theorem pick_impl (A B Aa : Option Addr) (c e ca : Nat) (k : Int) (LL : List (List Int)) (D a : List Int) (w : World) (h : VctQ w (.agg #[.int .i64 k, .slice A LL.length c, .slice B D.length e]) k LL D) (ha : Ints w Aa a) (hn : LL.length + totL LL + D.length ≤ 1048576) (ham : a.length ≤ 1048576) :
    Calls Try.prog 25 #[.agg #[.int .i64 k, .slice A LL.length c, .slice B D.length e], .slice Aa a.length ca] w (PickP k LL D a w) := by
  have HV := Lib.hid (fun u (hg : w.grownBy u none) => vecok_any _ k LL D u (h.grown hg).vct hn)
  have HA := Lib.hid (fun u (hg : w.grownBy u none) => upto_any Aa ca a.length (k - 1) a u (ha.grown hg (by simp)) ham)
  have HQ := Lib.hid h
  have HI := Lib.hid ha
  obtain ⟨n, hnn⟩ : ∃ n, LL.length = n := ⟨_, rfl⟩
  obtain ⟨m, hm⟩ : ∃ m, D.length = m := ⟨_, rfl⟩
  obtain ⟨q, hq⟩ : ∃ q, a.length = q := ⟨_, rfl⟩
  obtain ⟨o, ho⟩ : ∃ o, okV k LL D = o := ⟨_, rfl⟩
  obtain ⟨r, hr⟩ : ∃ r, okN (k - 1) a = r := ⟨_, rfl⟩
  have HO := Lib.hid ho
  have HR := Lib.hid hr
  have HN := Lib.hid hnn
  have HM := Lib.hid hm
  have HQQ := Lib.hid hq
  rw [hnn, hm, ho] at HV
  rw [hnn, hm] at HQ
  have e1 : decide (a.length = a.length ∧ okN (k - 1) a = true) = r := by rw [← hr]; simp
  rw [e1, hq] at HA
  rw [hnn, hm, hq]
  have HG0 := Lib.hid ((World.grownBy_alloc w (.cells #[.int .i64 k, .slice A n c, .slice B m e] 34) none).trans (World.grownBy_alloc _ (.cells #[.int .i64 0, .slice none 0 0, .slice none 0 0] 34) none))
  have HT0 := Lib.hid ((Tri.new w 34 (.int .i64 k) (.slice A n c) (.slice B m e)).alloc (.cells #[.int .i64 0, .slice none 0 0, .slice none 0 0] 34))
  have HR0 := Lib.hid (Tri.new (w.alloc (.cells #[.int .i64 k, .slice A n c, .slice B m e] 34)) 34 (.int .i64 0) (.slice none 0 0) (.slice none 0 0))
  have HNT := Lib.hid hn
  clear h ha ham hnn hm hq ho hr e1
  cases o with
  | false =>
    clear HA
    go_enter Try.func25, Try.ntmps25
    have c0 := HT0.out.c0
    have c1 := HT0.out.c1
    have c2 := HT0.out.c2
    go_wp2_with fail
    have hsz : (w.alloc (.cells #[.int .i64 k, .slice A n c, .slice B m e] 34)).heap.size = w.heap.size + 1 := by simp
    generalize (w.alloc (.cells #[.int .i64 k, .slice A n c, .slice B m e] 34)).alloc (.cells #[.int .i64 0, .slice none 0 0, .slice none 0 0] 34) = w1 at HG0 HT0 HR0 c0 c1 c2 ⊢
    rw [hsz] at HR0
    clear hsz
    refine (HV.out _ HG0.out).mono ?_
    rintro ee w2 ⟨rfl, hg2⟩
    have HG2 := Lib.hid (HG0.out.trans hg2)
    have HT2 := Lib.hid (HT0.out.grown hg2 (by simp))
    have HR2 := Lib.hid (HR0.out.grown hg2 (by simp))
    clear hg2 c0 c1 c2
    have c0 := HT2.out.c0
    have c1 := HT2.out.c1
    have c2 := HT2.out.c2
    have r0 := HR2.out.c0
    have r1 := HR2.out.c1
    have r2 := HR2.out.c2
    have f0 := HR2.out.f 0
    have f1 := HR2.out.f 1
    have f2 := HR2.out.f 2
    go_wp2_with fail
    have S1 := ((HR2.out.set0 (.int .i64 0)).set1 (.slice none 0 0)).set2 (.slice none 0 0)
    have hgz := ((gr_set w2 (w.heap.size + 1) 0 (.int .i64 0)).trans (gr_set _ (w.heap.size + 1) 1 (.slice none 0 0))).trans (gr_set ((w2.setCell ⟨w.heap.size + 1, 0, none⟩ (.int .i64 0)).setCell ⟨w.heap.size + 1, 1, none⟩ (.slice none 0 0)) (w.heap.size + 1) 2 (.slice none 0 0))
    have s0 := S1.c0
    have s1 := S1.c1
    have s2 := S1.c2
    refine bodyPost_ret (v := .tuple #[.agg #[.int .i64 0, .slice none 0 0, .slice none 0 0], .bool false]) (by simp [results, Try.results25, go_sem, s0, s1, s2]) rfl ?_
    exact pickP_no (by unfold pickB; rw [HO.out]; rfl) (gr_ownF HG2.out hgz (fun q hq => by cases hq; omega)) rfl
  | true =>
    obtain ⟨p, rfl, hp2, hn3, hfit⟩ := okV_fits HO.out
    have hpw : IntKind.i64.wrap ((p : Int) - 1) = (p : Int) - 1 := IntWalk.i64_in _ (by omega)
    have HFIT := Lib.hid hfit
    clear hfit
    by_cases hq2 : 2000 < q
    · clear HA
      go_enter Try.func25, Try.ntmps25
      have c0 := HT0.out.c0
      have c1 := HT0.out.c1
      have c2 := HT0.out.c2
      go_wp2_with fail
      have hsz : (w.alloc (.cells #[.int .i64 (p : Int), .slice A n c, .slice B m e] 34)).heap.size = w.heap.size + 1 := by simp
      generalize (w.alloc (.cells #[.int .i64 (p : Int), .slice A n c, .slice B m e] 34)).alloc (.cells #[.int .i64 0, .slice none 0 0, .slice none 0 0] 34) = w1 at HG0 HT0 HR0 c0 c1 c2 ⊢
      rw [hsz] at HR0
      clear hsz
      refine (HV.out _ HG0.out).mono ?_
      rintro ee w2 ⟨rfl, hg2⟩
      have HG2 := Lib.hid (HG0.out.trans hg2)
      have HT2 := Lib.hid (HT0.out.grown hg2 (by simp))
      have HR2 := Lib.hid (HR0.out.grown hg2 (by simp))
      clear hg2 c0 c1 c2
      have c0 := HT2.out.c0
      have c1 := HT2.out.c1
      have c2 := HT2.out.c2
      have r0 := HR2.out.c0
      have r1 := HR2.out.c1
      have r2 := HR2.out.c2
      have f0 := HR2.out.f 0
      have f1 := HR2.out.f 1
      have f2 := HR2.out.f 2
      have hqd : decide ((2000 : Int) < (q : Int)) = true := decide_eq_true (by omega)
      go_wp2_with fail
      have S1 := ((HR2.out.set0 (.int .i64 0)).set1 (.slice none 0 0)).set2 (.slice none 0 0)
      have hgz := ((gr_set w2 (w.heap.size + 1) 0 (.int .i64 0)).trans (gr_set _ (w.heap.size + 1) 1 (.slice none 0 0))).trans (gr_set ((w2.setCell ⟨w.heap.size + 1, 0, none⟩ (.int .i64 0)).setCell ⟨w.heap.size + 1, 1, none⟩ (.slice none 0 0)) (w.heap.size + 1) 2 (.slice none 0 0))
      have s0 := S1.c0
      have s1 := S1.c1
      have s2 := S1.c2
      refine bodyPost_ret (v := .tuple #[.agg #[.int .i64 0, .slice none 0 0, .slice none 0 0], .bool false]) (by simp [results, Try.results25, go_sem, s0, s1, s2]) rfl ?_
      exact pickP_no (by unfold pickB; rw [decide_eq_false (show ¬ a.length ≤ 2000 by have := HQQ.out; omega)]; simp) (gr_ownF HG2.out hgz (fun q hq => by cases hq; omega)) rfl
    · have hqd : decide ((2000 : Int) < (q : Int)) = false := decide_eq_false (by omega)
      go_enter Try.func25, Try.ntmps25
      have c0 := HT0.out.c0
      have c1 := HT0.out.c1
      have c2 := HT0.out.c2
      go_wp2_with fail
      have hsz : (w.alloc (.cells #[.int .i64 (p : Int), .slice A n c, .slice B m e] 34)).heap.size = w.heap.size + 1 := by simp
      generalize (w.alloc (.cells #[.int .i64 (p : Int), .slice A n c, .slice B m e] 34)).alloc (.cells #[.int .i64 0, .slice none 0 0, .slice none 0 0] 34) = w1 at HG0 HT0 HR0 c0 c1 c2 ⊢
      rw [hsz] at HR0
      clear hsz
      refine (HV.out _ HG0.out).mono ?_
      rintro ee w2 ⟨rfl, hg2⟩
      have HG2 := Lib.hid (HG0.out.trans hg2)
      have HT2 := Lib.hid (HT0.out.grown hg2 (by simp))
      have HR2 := Lib.hid (HR0.out.grown hg2 (by simp))
      clear hg2 c0 c1 c2
      have c0 := HT2.out.c0
      have c1 := HT2.out.c1
      have c2 := HT2.out.c2
      have r0 := HR2.out.c0
      have r1 := HR2.out.c1
      have r2 := HR2.out.c2
      have f0 := HR2.out.f 0
      have f1 := HR2.out.f 1
      have f2 := HR2.out.f 2
      go_wp2_with fail
      refine (HA.out _ HG2.out).mono ?_
      rintro ee w3 ⟨rfl, rfl⟩
      cases r with
      | false =>
        go_wp2_with fail
        have S1 := ((HR2.out.set0 (.int .i64 0)).set1 (.slice none 0 0)).set2 (.slice none 0 0)
        have hgz := ((gr_set w2 (w.heap.size + 1) 0 (.int .i64 0)).trans (gr_set _ (w.heap.size + 1) 1 (.slice none 0 0))).trans (gr_set ((w2.setCell ⟨w.heap.size + 1, 0, none⟩ (.int .i64 0)).setCell ⟨w.heap.size + 1, 1, none⟩ (.slice none 0 0)) (w.heap.size + 1) 2 (.slice none 0 0))
        have s0 := S1.c0
        have s1 := S1.c1
        have s2 := S1.c2
        refine bodyPost_ret (v := .tuple #[.agg #[.int .i64 0, .slice none 0 0, .slice none 0 0], .bool false]) (by simp [results, Try.results25, go_sem, s0, s1, s2]) rfl ?_
        exact pickP_no (by unfold pickB; rw [HR.out]; simp) (gr_ownF HG2.out hgz (fun q hq => by cases hq; omega)) rfl
      | true =>
        have hpk : pickB (p : Int) LL D a = true := by
          unfold pickB
          rw [HO.out, HR.out, decide_eq_true (show a.length ≤ 2000 by have := HQQ.out; omega)]
          rfl
        have HPK := Lib.hid hpk
        obtain ⟨hL1, hD1⟩ := fold_lv LL.length p LL D rfl HFIT.out
        have htl := foldN_len LL.length p LL D rfl HFIT.out
        have hin := okN_inN HR.out
        obtain ⟨ts, hts⟩ : ∃ ts, foldN LL.length LL D = ts := ⟨_, rfl⟩
        rw [hts] at hL1 hD1 htl
        have HPT : Hid (pickT LL D a = picks ts a) := Lib.hid (by unfold pickT; rw [hts])
        have hszn : szN LL.length ts ≤ 1048576 := by unfold szN; rw [hL1, hD1]; omega
        have hokl : OkL (lv LL.length ts) := fun j L hL => by
          rw [hL1] at hL
          have := totL_at hL
          exact ⟨(fits_drop HFIT.out hL).1, by omega⟩
        have HF := Lib.hid (fun u => flatof_any A B n c m e u)
        have HAR := Lib.hid (fun u (hg : w.grownBy u none) => (by
          obtain ⟨h1, h2, h3, h4⟩ := (HQ.out.grown hg).lvb hL1 hD1
          have := arrays_any LL.length ts B A e c u hn3 (by rw [← h4]; exact h1) h2 hokl (by omega)
          subst h3
          subst h4
          rw [htl] at this
          exact this : Calls Try.prog 56 #[.agg #[.slice B m e, .slice A n c], .int .i64 (p : Int)] u fun e w' => ∃ ga, e = .returned (.slice (some ⟨ga, 0, none⟩) p p) ∧ u.grownBy w' none ∧ u.heap.size ≤ ga ∧ ArrsAt u.heap.size u.heap.size LL.length ts p w' ga p))
        have HCELL := Lib.hid (fun (w5 : World) (B5 ga : Nat) (har : ArrsAt B5 B5 LL.length ts p w5 ga p) (zi : Nat) (hz : zi < p) => (by
          obtain ⟨cur, hc1, hc2, hc3⟩ := har
          obtain ⟨t, ht⟩ : ∃ t, ts[zi]? = some t := ⟨_, List.getElem?_eq_getElem (by omega)⟩
          obtain ⟨x, y, hx, hy, haf⟩ := hc3 zi t hz ht
          obtain ⟨A6, cA, P6, cP, rfl, rfl, hi6, hr6⟩ := arf_reads haf
          exact ⟨t, ht, A6, cA, P6, cP, (by rw [cell_of_row w5 ga (zi * 2) _ _ (0, 0) hc1]; exact hx), (by rw [cell_of_row w5 ga (zi * 2 + 1) _ _ (0, 0) hc1]; exact hy), hi6, hr6⟩ : ∃ t, ts[zi]? = some t ∧ ∃ A6 cA P6 cP, w5.cell? ⟨ga, zi * 2, none⟩ = some (.slice A6 (dat LL.length [t]).length cA) ∧ w5.cell? ⟨ga, zi * 2 + 1, none⟩ = some (.slice P6 LL.length cP) ∧ Ints w5 A6 (dat LL.length [t]) ∧ Rws w5 P6 (lv LL.length [t])))
        have HSZ := Lib.hid hszn
        have HIN := Lib.hid hin
        have HTL := Lib.hid htl
        clear hpk hL1 hD1 htl hin hts hszn hokl HA HV
        have i0 : (0 : Int) ≤ (p : Int) := by omega
        go_wp2_with fail
        go_region_law (first
          | (go_simp
             go_at_call 55
             refine (HF.out _).mono ?_
             rintro ee w4 ⟨rfl, hg4⟩
             have hg24 := (gr_drewN w2 _ none).trans hg4
             have d0 := (HT2.out.grown hg24 (by simp)).c0
             have HT4 := Lib.hid (HT2.out.grown hg24 (by simp))
             have HR4 := Lib.hid (HR2.out.grown hg24 (by simp))
             have HG4 := Lib.hid (HG2.out.trans hg24)
             have HAC := Lib.hid (HAR.out w4 HG4.out)
             clear hg4 hg24)
          | (go_simp
             go_at_call 56
             refine HAC.out.mono ?_
             rintro ee w5 ⟨ga, rfl, hg5, hga, har⟩
             have HG5 := Lib.hid (HG4.out.trans hg5)
             have HT5 := Lib.hid (HT4.out.grown hg5 (by simp))
             have HR5 := Lib.hid (HR4.out.grown hg5 (by simp))
             have HAR5 := Lib.hid (And.intro hg5 (And.intro hga har))
             clear hg5 hga har))
        all_goals
          have t1 := HT5.out.c1
          go_wp2_with fail
          clear t1
          refine (fod_any n w5 (by have := HN.out; omega)).mono ?_
          rintro ee w6 ⟨gR, rfl, hg6, _, ho6⟩
          have hfl := flat_start hg6.size ho6
          have hga := hg6.trans (World.grownBy_alloc w6 (.cells #[.slice none 0 0, .slice (some ⟨gR, 0, none⟩) n n] 70) none)
          have HFL := Lib.hid (show ∃ d', Flat (w6.alloc (.cells #[.slice none 0 0, .slice (some ⟨gR, 0, none⟩) n n] 70)) w5.heap.size w6.heap.size d' (lv LL.length (picks ts (a.take 0))) (dat LL.length (picks ts (a.take 0))) from ⟨_, by rw [List.take_zero, picks_nil, lv_noneP, dat_nil, HN.out]; exact hfl⟩)
          have HBL := Lib.hid (show Below w5.heap.size w5 (w6.alloc (.cells #[.slice none 0 0, .slice (some ⟨gR, 0, none⟩) n n] 70)) from ⟨hga.os, hga.tape, hga.output, hga.size, fun k hk => hga.block k hk (by simp)⟩)
          clear hg6 ho6 hfl hga
          go_wp2_with fail
          generalize w6.alloc (.cells #[.slice none 0 0, .slice (some ⟨gR, 0, none⟩) n n] 70) = u0 at HFL HBL ⊢
          go_loopw [42] (fun i wr => ∃ (j : Nat), j ≤ q ∧ i = .int .i64 j ∧ Hid (Below w5.heap.size w5 wr) ∧ Hid (∃ d', Flat wr w5.heap.size w6.heap.size d' (lv LL.length (picks ts (a.take j))) (dat LL.length (picks ts (a.take j))))) (fun i _ => q - (intOf i).toNat)
          case atStart => exact ⟨0, Nat.zero_le _, rfl, HBL, HFL⟩
          case round =>
            clear HFL HBL
            obtain ⟨j, hj, rfl, hbl, hfe⟩ := hrel
            obtain ⟨wo, rfl⟩ : ∃ wo : World, wo = wr := ⟨_, rfl⟩
            have hg5o : w5.grownBy wo none := below_gr (gr_refl _ _) hbl.out
            have HGW := Lib.hid (HG5.out.trans hg5o)
            have HTR := Lib.hid (HR5.out.grown hg5o (by simp))
            obtain ⟨d', hfl⟩ := hfe.out
            by_cases hlt : j < q
            · obtain ⟨z, hz⟩ : ∃ z, a[j]? = some z := ⟨_, List.getElem?_eq_getElem (by have := HQQ.out; omega)⟩
              obtain ⟨hz0, hz1⟩ := inN_at HIN.out hz
              obtain ⟨b, off, rfl, _, hc⟩ := (HI.out.grown HGW.out (by simp)) (by have := HQQ.out; omega)
              have hcell := hc j z hz
              obtain ⟨zi, rfl⟩ : ∃ zi : Nat, z = zi := ⟨z.toNat, by omega⟩
              obtain ⟨t, ht, A6, cA, P6, cP, hx, hy, hi6, hr6⟩ := HCELL.out w5 _ ga HAR5.out.2.2 zi (by omega)
              have hx := hg5o.cell hx (by simp)
              have hy := hg5o.cell hy (by simp)
              have hst := picks_step hz (show ts[((zi : Nat) : Int).toNat]? = some t by simpa using ht)
              have hsm := szN_picks ts (a.take j)
              have htk : (a.take j).length ≤ 2000 := by rw [List.length_take]; have := HQQ.out; omega
              have hmul : (a.take j).length * szN LL.length ts ≤ 2000 * 1048576 := Nat.mul_le_mul htk HSZ.out
              have hst1 : szN LL.length [t] ≤ 1048576 := Nat.le_trans (szN_mem (List.mem_of_getElem? ht)) HSZ.out
              have HAD := Lib.hid (add_any LL.length t w6.heap.size w5.heap.size A6 P6 cA cP d' _ _ wo hfl (by rw [lv_len]) hn3 (fun w' hb => by
                have hg' : w5.grownBy w' none := below_gr (gr_refl _ _) (hbl.out.trans hb)
                exact ⟨hi6.grown hg' (by simp), hr6.grown hg'⟩) (fun i L M h1 h2 => by
                have := sz_row h1
                have := sz_row h2
                omega) (by
                have hsm2 := Nat.le_trans hsm hmul
                unfold szN at hsm2 hst1
                omega))
              rw [← lv_append, ← dat_append, ← hst] at HAD
              obtain ⟨ml, hml⟩ : ∃ ml, (dat LL.length [t]).length = ml := ⟨_, rfl⟩
              rw [hml] at HAD hx
              rw [HN.out] at hy
              have HAD2 := Lib.hid (show Calls Try.prog 57 #[.pointer (some ⟨w6.heap.size, 0, none⟩), .agg #[.slice A6 ml cA, .slice P6 n cP]] wo fun e w' => e = .returned (.tuple #[]) ∧ Below w5.heap.size wo w' ∧ ∃ d', Flat w' w5.heap.size w6.heap.size d' (lv LL.length (picks ts (a.take (j + 1)))) (dat LL.length (picks ts (a.take (j + 1)))) by rw [show Value.slice P6 n cP = Value.slice P6 LL.length cP by rw [HN.out]]; exact HAD.out)
              clear HAD hc hi6 hr6 hst hsm hmul hst1 hml hfl hfe hz ht htk
              go_wp2_with fail
              refine HAD2.out.mono ?_
              rintro ee w8 ⟨rfl, hb8, hf8⟩
              have HB8 := Lib.hid (hbl.out.trans hb8)
              have HF8 := Lib.hid hf8
              clear hb8 hf8
              go_wp2_with fail
              go_roundw
              case rel => exact ⟨j + 1, by omega, by go_num, HB8, HF8⟩
              case measure => simp [intOf]; omega
            · have hjn : j = q := by omega
              have e1 : a.take j = a := List.take_of_length_le (by have := HQQ.out; omega)
              rw [e1] at hfl
              obtain ⟨us, hus⟩ : ∃ us, picks ts a = us := ⟨_, rfl⟩
              rw [hus] at hfl
              have hul : us.length = q := by rw [← hus, picks_len (by rw [HTL.out]; exact HIN.out)]; exact HQQ.out
              have hsm := szN_picks ts a
              have hmul : a.length * szN LL.length ts ≤ 2000 * 1048576 := Nat.mul_le_mul (by have := HQQ.out; omega) HSZ.out
              rw [hus] at hsm
              have hsm2 := Nat.le_trans hsm hmul
              obtain ⟨g, c3, hp3, hl3, _, _⟩ := hfl
              obtain ⟨⟨A8, c8, rfl, hi8, hd8, hn8⟩, hrw8, hcl8⟩ := hl3.reads
              have hlv := lv_len LL.length us
              have HLY := Lib.hid (layout_any (some ⟨g, 0, none⟩) A8 c3 c8 (lv LL.length us) (dat LL.length us) wo hrw8 hi8 (by rw [hlv]; omega) (fun M hM => by
                obtain ⟨i, hi⟩ := List.getElem?_of_mem hM
                have := sz_row hi
                omega) (by unfold szN at hsm2; omega) hd8 hn8 hcl8)
              have c0 := hp3.c0
              have c1 := hp3.c1
              obtain ⟨kk, hkk⟩ : ∃ kk, (dat LL.length us).length = kk := ⟨_, rfl⟩
              rw [hkk] at c0 HLY
              rw [hlv, HN.out] at c1
              have HLY2 := Lib.hid (show Calls Try.prog 42 #[.agg #[.slice A8 kk c8, .slice (some ⟨g, 0, none⟩) n c3]] wo fun e w' => ∃ u, e = .returned u ∧ wo.grownBy w' none ∧ OwnLyt w' wo.heap.size u (lv LL.length us) (dat LL.length us) by
                rw [show Value.slice (some ⟨g, 0, none⟩) n c3 = Value.slice (some ⟨g, 0, none⟩) (lv LL.length us).length c3 by rw [hlv, HN.out]]
                exact HLY.out)
              have HUS := Lib.hid (show pickT LL D a = us by rw [HPT.out, hus])
              have HLV := Lib.hid hlv
              have HKK := Lib.hid hkk
              clear hsm hmul hsm2 hp3 hl3 hi8 hd8 hn8 hrw8 hcl8 hus hul HLY hlv hkk e1 hjn hfe
              go_wp2_with fail
              refine HLY2.out.mono ?_
              rintro ee w9 ⟨u, rfl, hg9, ho9⟩
              obtain ⟨A9, c9, B9, e9, rfl, _⟩ := id ho9.lyt
              have hva : (lv LL.length us).length = n := HLV.out.trans HN.out
              rw [hva, HKK.out] at ho9 ⊢
              clear hva
              have T4 := HTR.out.grown hg9 (by simp)
              have r0 := T4.c0
              have r1 := T4.c1
              have r2 := T4.c2
              have f0 := T4.f 0
              have f1 := T4.f 1
              have f2 := T4.f 2
              have HT9 := Lib.hid T4
              have HG9 := Lib.hid (HGW.out.trans hg9)
              have HO9 := Lib.hid ho9
              have hlo : w.heap.size ≤ wo.heap.size := HGW.out.size
              have hlo2 : w.heap.size + 1 < wo.heap.size := HTR.out.lt
              clear T4 hg9 ho9
              go_wp2_with fail
              have S1 := ((HT9.out.set0 (.int .i64 (q : Int))).set1 (.slice A9 n c9)).set2 (.slice B9 kk e9)
              have hgz := ((gr_set w9 (w.heap.size + 1) 0 (.int .i64 (q : Int))).trans (gr_set _ (w.heap.size + 1) 1 (.slice A9 n c9))).trans (gr_set ((w9.setCell ⟨w.heap.size + 1, 0, none⟩ (.int .i64 (q : Int))).setCell ⟨w.heap.size + 1, 1, none⟩ (.slice A9 n c9)) (w.heap.size + 1) 2 (.slice B9 kk e9))
              have s0 := S1.c0
              have s1 := S1.c1
              have s2 := S1.c2
              refine bodyPost_ret (v := .tuple #[.agg #[.int .i64 (q : Int), .slice A9 n c9, .slice B9 kk e9], .bool true]) (by simp [results, Try.results25, go_sem, s0, s1, s2]) rfl ?_
              refine pickP_yes HPK.out (gr_ownF HG9.out hgz (fun q hq => by cases hq; omega)) rfl ?_
              rw [HUS.out, HQQ.out]
              exact ⟨_, _, rfl, (HO9.out.keep (fun q hq hq2 => hgz.block q hq2 (by simp; omega))).lows hlo⟩
end

end Go.Proofs.Ytdfanconjiiceaa
