/- What lay and layParts of the program do with a node: the levels and the numbers behind those that are there. -/
import Derived.Test.YtachjodnhgmoiaaLayMem
import Derived.Test.YtachjodnhgmoiaaPutB
import Derived.Test.YtachjodnhgmoiaaNest
import Derived.Maps.AppendAt
import Derived.Deep.RegionLaw
import Derived.Deep.AppendLies
import Derived.Deep.CutRange
namespace Go.Proofs.Ytachjodnhgmoiaa
open Go.RowKit



/-- The program's and the model's struct of levels and numbers. -/
def Flat (w : World) (base gf : Nat) (d : Value) (LL : List (List Int)) (D : List Int) : Prop :=
  ∃ g c, Pr w gf 44 d (.slice (some ⟨g, 0, none⟩) LL.length c) ∧ LaidAt w base g c d LL D ∧ base ≤ w.heap.size ∧ base ≤ gf

/-- The first statement of layParts: a length more at a level. -/
def LenPost (base gf k : Nat) (z : Int) (LL : List (List Int)) (D L : List Int) (d : Value) (w w' : World) : Prop := Below base w w' ∧ Flat w' base gf d (LL.set k (L ++ [z])) D

set_option maxHeartbeats 400000 in
theorem put_any (gf base : Nat) (z : Int) (d : Value) (LL : List (List Int)) (D : List Int) (w : World) (h : Flat w base gf d LL D) (hl : D.length ≤ 1000000) :
    Calls Try.prog 31 #[.pointer (some ⟨gf, 0, none⟩), .int .i64 z] w fun e w' => e = .returned (.tuple #[]) ∧ Below base w w' ∧ ∃ d', Flat w' base gf d' LL (D ++ [z]) := by
  obtain ⟨i0, hi0, hz0, hz1, hz2⟩ := info_parts infoJ
  obtain ⟨g, c, hp, h, hb, hgf⟩ := h
  have HP := Lib.hid hp
  obtain ⟨hown, hnext⟩ := h.data (z := z)
  have HN := Lib.hid hnext
  have c0 := hp.c0
  have f0 := hp.f 0
  have HO := Lib.hid hown
  obtain ⟨A, k, e, rfl⟩ := own_form hown
  obtain rfl : k = D.length := own_len2 hown
  have HH := Lib.hid h
  obtain ⟨q, hq⟩ : ∃ q, D.length = q := ⟨_, rfl⟩
  have HQ := Lib.hid hq
  rw [hq] at c0 hl
  clear h hp hown hnext hq
  go_enter Try.func31, Try.ntmps31
  have own1 : (w.alloc (.cells #[.int .i64 z] 3)).ownsRow base 3 1 (.slice A q e) q (D.map (Value.int .i64)) := by
    have := HO.out.alloc (.cells #[.int .i64 z] 3)
    rwa [HQ.out] at this
  go_wp2_with (at_builtin; refine wpList_append_own_at _ rfl _ _ 22 rfl base 3 i0 (.int .i64 0) 1 8 Try.underlying22 hi0 hz0 hz1 hz2 rfl (by decide) _ _ _ rfl own1 ⟨w.heap.size, 0, none⟩ 1 1 [.int .i64 z] rfl rfl (cell_one_new _ _ _) ?c2 ?c3 ?c4 ?c5 ?_)
  case c2 => simp [Value.oneCell']
  case c3 => simp only [maxLen]; omega
  case c4 => omega
  case c5 => simp; omega
  intro v8 w8 hown8 hg8 _ hat8
  have hg9 : w.grownBy w8 (Value.slice A q e).ownBlock := (World.grownBy_alloc w (.cells #[.int .i64 z] 3) _).trans hg8
  have hat : ∀ b, v8.ownBlock = some b → (Value.slice A q e).ownBlock = some b ∨ w.heap.size ≤ b := by
    intro b hb
    rcases hat8 with h | h
    · left; rw [← h]; exact hb
    · right; rw [hb] at h; simp at h; omega
  have hnx := HN.out w8 v8 (by rw [HQ.out]; exact hg9) (by rw [HQ.out]; exact hown8) (by rw [HQ.out]; exact hat)
  have hown0 : w.ownsRow base 3 1 (.slice A q e) q (D.map (Value.int .i64)) := by have := HO.out; rwa [HQ.out] at this
  have P8 := (show Pr w gf 44 (.slice A q e) (.slice (some ⟨g, 0, none⟩) LL.length c) by have := HP.out; rwa [HQ.out] at this).row hown0 (by decide) hg9
  have e0 := P8.c0
  have e1 := P8.f 0
  obtain ⟨A8, m8, c8, rfl⟩ := own_form hown8
  have HNX := Lib.hid hnx
  have HP8 := Lib.hid P8
  have HB8 := Lib.hid (below_row hown0 hb hg9)
  have HS8 := Lib.hid hg9.size
  clear hown8 hg8 hat8 hg9 hat hnx hown0 P8 own1 c0 f0
  go_wp2_with fail
  go_end0
  have hs9 := gr_set w8 gf 0 (.slice A8 m8 c8)
  exact ⟨rfl, HB8.out.trans (below_set hgf), _, g, c, HP8.out.set0 _, HNX.out.other HP8.out (by decide) (by decide) hs9, Nat.le_trans hb (Nat.le_trans HS8.out hs9.size), hgf⟩

/-- The first statement's facts: the level's row, and what the store does. -/
theorem len_step {w : World} {base gf k : Nat} {z : Int} {d : Value} {LL : List (List Int)} {D L : List Int} (h : Flat w base gf d LL D) (hL : LL[k]? = some L) :
    ∃ g c A e, Pr w gf 44 d (.slice (some ⟨g, 0, none⟩) LL.length c) ∧ k < LL.length ∧ w.cell? ⟨g, k, none⟩ = some (.slice A L.length e) ∧ w.frozen? ⟨g, k, none⟩ = false ∧ base ≤ w.heap.size ∧
      w.ownsRow base 3 1 (.slice A L.length e) L.length (L.map (Value.int .i64)) ∧
      ∀ (w1 : World) (gg cap : Nat), w.grownBy w1 (Value.slice A L.length e).ownBlock → w1.ownsRow base 3 1 (.slice (some ⟨gg, 0, none⟩) (L.length + 1) cap) (L.length + 1) (L.map (Value.int .i64) ++ [.int .i64 z]) → ((Value.slice A L.length e).ownBlock = some gg ∨ w.heap.size ≤ gg) →
        (∃ y, w1.cell? ⟨g, k, none⟩ = some y) ∧ w1.frozen? ⟨g, k, none⟩ = false ∧ w1.cell? ⟨gf, 1, none⟩ = some (.slice (some ⟨g, 0, none⟩) LL.length c) ∧
        Below base w (w1.setCell ⟨g, k, none⟩ (.slice (some ⟨gg, 0, none⟩) (L.length + 1) cap)) ∧ Flat (w1.setCell ⟨g, k, none⟩ (.slice (some ⟨gg, 0, none⟩) (L.length + 1) cap)) base gf d (LL.set k (L ++ [z])) D := by
  obtain ⟨g, c, hp, h, hb, hgf⟩ := h
  obtain ⟨v, hc, hf, ho, hnx⟩ := h.level (z := z) hL
  have hk : k < LL.length := (List.getElem?_eq_some_iff.1 hL).1
  obtain ⟨A, m, e, rfl⟩ := own_form ho
  obtain rfl : m = L.length := own_len2 ho
  refine ⟨g, c, A, e, hp, hk, hc, hf, hb, ho, fun w1 gg cap hg hw hat => ?_⟩
  obtain ⟨hy, hf1, hl⟩ := hnx w1 (.slice (some ⟨gg, 0, none⟩) (L.length + 1) cap) hg hw (fun b hb => by cases hb; exact hat)
  have hp1 := hp.row ho (by decide) hg
  obtain ⟨vs, hov, _⟩ := h
  have hgb := (hov.lt g rfl).1
  have hs := gr_set w1 g k (.slice (some ⟨gg, 0, none⟩) (L.length + 1) cap)
  have hne : some gf ≠ some g := fun e2 => by
    cases e2
    obtain ⟨cs, hcs⟩ := own_cells hov
    unfold Pr at hp
    rw [hp] at hcs
    cases hcs
  refine ⟨hy, hf1, hp1.c1, (below_row ho hb hg).trans (below_set hgb), g, c, ?_, hl, Nat.le_trans hb (Nat.le_trans hg.size hs.size), hgf⟩
  have := hp1.grown hs hne
  rwa [List.length_set]

theorem prow1 {w : World} {base e : Nat} {A : Option Addr} {k c : Nat} {xs : List Value} (h : w.ownsRow base e 1 (.slice A k c) xs.length xs) :
    k = xs.length ∧ (0 < k → ∃ g, A = some ⟨g, 0, none⟩ ∧ ∀ (j : Nat) (x : Value), xs[j]? = some x → w.cell? ⟨g, j, none⟩ = some x) := by
  rcases h.2 with ⟨hv, hn⟩ | ⟨g, cap, cur, hv, _, hg, hnc, _, hcs, htake⟩
  · cases hv
    exact ⟨by omega, fun h => by omega⟩
  · cases hv
    refine ⟨rfl, fun _ => ⟨g, rfl, fun j x hj => ?_⟩⟩
    have hjl := (List.getElem?_eq_some_iff.1 hj).1
    rw [cell_of_row w g j _ _ (0, 0) hg]
    have : (cur.toList.take (xs.length * 1))[j]? = some x := by rw [htake, hj]
    rw [List.getElem?_take, if_pos (by omega)] at this
    simpa using this
theorem RepI.below {w w' : World} {S : Nat → Prop} {base d : Nat} {t : T d} {v : Value} (h : RepI w S d t v) (hS : ∀ b, S b → b < base) (hb : Below base w w') : RepI w' S d t v :=
  RepI.keep (fun b hs _ => hb.block b (hS b hs)) (fun _ hs _ => hs) d t v h

/-- What lay does with an array of a depth. -/
def LayP (d : Nat) : Prop := ∀ (t : T d) (gf base k : Nat) (S : Nat → Prop) (v d0 : Value) (LL : List (List Int)) (D : List Int) (w : World), Flat w base gf d0 LL D → RepI w S d t v → (∀ b, S b → b < base) → LL.length = k + d → k + d ≤ 10 → Short (behind k LL (lv d [t])) → (D ++ dat d [t]).length ≤ 1000000 →
  Calls Try.prog 20 #[.pointer (some ⟨gf, 0, none⟩), v, .int .i64 k] w fun e w' => e = .returned (.tuple #[]) ∧ Below base w w' ∧ ∃ d', Flat w' base gf d' (behind k LL (lv d [t])) (D ++ dat d [t])


set_option maxRecDepth 100000 in
set_option maxHeartbeats 4000000 in
theorem layq0 (ih : LayP 0) (ts : List (T 0)) (gf base k : Nat) (S : Nat → Prop) (A : Option Addr) (m e : Nat) (xs : List Value) (d : Value) (LL : List (List Int)) (D : List Int) (w : World) (h : Flat w base gf d LL D)
    (hx : w.ownsRow 0 (elT 0) 1 (.slice A m e) xs.length xs) (hxs : ∀ g, (Value.slice A m e).ownBlock = some g → S g) (ha : All2 (Nd w S 0) ts xs) (hS : ∀ b, S b → b < base) (hlen : LL.length = k + (0 + 1)) (hk10 : k + (0 + 1) ≤ 10)
    (hsh : Short (behind k LL (lv (0 + 1) [(show T (0 + 1) from ts)]))) (hdl : (D ++ dat (0 + 1) [(show T (0 + 1) from ts)]).length ≤ 1000000) (hts : ts.length ≤ 1000000) :
    Calls Try.prog 32 #[.pointer (some ⟨gf, 0, none⟩), .slice A m e, .int .i64 k] w fun e w' => e = .returned (.tuple #[]) ∧ Below base w w' ∧ ∃ d', Flat w' base gf d' (behind k LL (lv (0 + 1) [(show T (0 + 1) from ts)])) (D ++ dat (0 + 1) [(show T (0 + 1) from ts)]) := by
  obtain ⟨L, hL⟩ : ∃ L, LL[k]? = some L := ⟨_, List.getElem?_eq_getElem (by omega)⟩
  have hl : L.length ≤ 1000000 := (hsh.of_behind hlen (lv_len _ _)).level hL
  have hmt : ts.length = m := by rw [(prow1 hx).1]; exact All2.length _ _ ha
  have hn1 : (LL.set k (L ++ [(m : Int)])).length = k + 1 + 0 := by rw [List.length_set]; omega
  have hbe : behind k LL (lv (0 + 1) [(show T (0 + 1) from ts)]) = behind (k + 1) (LL.set k (L ++ [(m : Int)])) (lv 0 ts) := by
    rw [← hmt]; exact behind_node _ hlen hL
  have hde : dat (0 + 1) [(show T (0 + 1) from ts)] = dat 0 ts := dat_one 0 _
  rw [hbe] at hsh
  rw [hde] at hdl
  rw [hbe, hde]
  have HSH := Lib.hid hsh
  have HDL := Lib.hid hdl
  have HN1 := Lib.hid hn1
  have HMT := Lib.hid hmt
  have HX := Lib.hid (fun (w' : World) (hb : Below base w w') => own_below hx (fun g hg => hS g (hxs g hg)) hb)
  have HA := Lib.hid ha
  have HSS := Lib.hid hS
  have HI := Lib.hid ih
  have HXL := Lib.hid (All2.length _ _ ha)
  have hm6 : m ≤ 1000000 := by omega
  clear hbe hde hsh hdl hn1 hmt hx hxs ha hS ih hlen
  obtain ⟨i0, hi0, hz0, hz1, hz2⟩ := info_parts infoJ
  obtain ⟨g, c, A2, e2, hp, hk, hc, hf, hb, ho, hnx⟩ := len_step (z := (m : Int)) h hL
  have c1 := hp.c1
  have HNX := Lib.hid hnx
  have HO := Lib.hid ho
  obtain ⟨q, hq⟩ : ∃ q, L.length = q := ⟨_, rfl⟩
  obtain ⟨n, hn⟩ : ∃ n, LL.length = n := ⟨_, rfl⟩
  rw [hn] at c1 hk
  rw [hq] at hc hl
  rw [hq, hn] at HNX
  rw [hq] at HO
  have own7 := (HO.out.alloc (.cells #[.int .i64 (m : Int)] 3)).kept (gr_drew _ none) (by cases hv : (Value.slice A2 q e2).ownBlock <;> simp)
  have hc2 := (World.grownBy_alloc w (.cells #[.int .i64 (m : Int)] 3) none).cell hc (by simp)
  have hc3 : ((w.alloc (.cells #[.int .i64 (m : Int)] 3)).drew).cell? ⟨g, k, none⟩ = _ := hc2
  have c2 := (World.grownBy_alloc w (.cells #[.int .i64 (m : Int)] 3) none).cell c1 (by simp)
  have c3 : ((w.alloc (.cells #[.int .i64 (m : Int)] 3)).drew).cell? ⟨gf, 1, none⟩ = _ := c2
  clear hL h hp hnx ho hq hn
  go_enter Try.func32, Try.ntmps32
  go_wp2_with fail
  go_cut [] from 8 to 24 (fun wx => Hid (Below base w wx) ∧ Hid (Flat wx base gf d (LL.set k (L ++ [(m : Int)])) D))
  case first =>
   go_region_law (first
    | (refine step_append_lies _ (by rfl) _ _ _ (by rfl) base 3 i0 _ 1 8 Try.underlying22 hi0 hz0 hz1 hz2 rfl (by omega) (.slice A2 q e2) q (L.map (Value.int .i64)) (by rfl) own7 ⟨w.heap.size, 0, none⟩ 1 1 [.int .i64 (m : Int)] (by rfl) (by rfl) (World.news_of_block (cs := #[.int .i64 (m : Int)]) (t := 3) (fr := (0, 0)) (heap_alloc_new _ _)) (by simp [Value.oneCell']) (by omega) (by simp only [maxLen]; omega) (by omega) (by simp; omega) (w.heap.size + 1) (by simp) ?_
       intro gg cap w8 hown8 hg8 hat8 _
       obtain ⟨⟨y8, hy8⟩, hf8, hc8, hb8, hF8⟩ := HNX.out w8 gg cap (((World.grownBy_alloc w (.cells #[.int .i64 (m : Int)] 3) _).trans (gr_drew _ _)).trans hg8) hown8 (by rcases hat8 with h | h; exact .inl h; right; omega)
       have HB8 := Lib.hid hb8
       have HF8 := Lib.hid hF8
       clear hown8 hg8 hat8 hb8 hF8))
   all_goals
     go_wp2_with fail
     go_meet
     exact ⟨HB8, HF8⟩
  case rest =>
   obtain ⟨HB1, HF1⟩ := hcut
   go_wp2_with fail
   have wk : IntKind.i64.wrap ((k : Int) + 1) = (k : Int) + 1 := IntWalk.i64_in _ (by omega)
   go_loopw [27] (fun i wr => ∃ (j : Nat), j ≤ m ∧ i = .int .i64 j ∧ Hid (Below base w wr) ∧ Hid (∃ d', Flat wr base gf d' (behind (k + 1) (LL.set k (L ++ [(m : Int)])) (lv 0 (ts.take j))) (D ++ dat 0 (ts.take j)))) (fun i _ => m - (intOf i).toNat)
   case atStart => exact ⟨0, Nat.zero_le _, rfl, HB1, Lib.hid ⟨d, by rw [List.take_zero, behind_nil HN1.out, dat_nil, List.append_nil]; exact HF1.out⟩⟩
   case round =>
    obtain ⟨j, hj, rfl, hbl, hfe⟩ := hrel
    obtain ⟨d', hfl⟩ := hfe.out
    have HFL := Lib.hid hfl
    clear hfl
    by_cases hlt : j < m
    · obtain ⟨t, x, ht, hx, hnd⟩ := All2.nth (j := j) HA.out (by have := HXL.out; have := HMT.out; omega)
      obtain ⟨g3, rfl, hcells⟩ := (prow1 (HX.out wr hbl.out)).2 (by omega)
      have hcell := hcells j x hx
      have HT := Lib.hid ht
      obtain rfl : x = .int .i64 ((show Nat from t : Nat) : Int) := hnd
      have HC := Lib.hid (HI.out t gf base (k + 1) S (.iface 65 (.int .i64 ((show Nat from t : Nat) : Int))) d' _ _ wr HFL.out rfl HSS.out (behind_len HN1.out (lv_len 0 _)) (by omega)
        (by rw [behind_step HN1.out ht]; exact HSH.out.part HN1.out) (by rw [List.append_assoc, ← dat_step ht, List.length_append]; have := dat_part (d := 0) (ts := ts) (j + 1); have := HDL.out; rw [List.length_append] at this; omega))
      rw [behind_step HN1.out ht, List.append_assoc, ← dat_step ht] at HC
      obtain ⟨z, hz⟩ : ∃ z : Int, ((show Nat from t : Nat) : Int) = z := ⟨_, rfl⟩
      rw [hz] at hcell HC
      rw [show ((k + 1 : Nat) : Int) = (k : Int) + 1 from by omega] at HC
      clear ht hx hcells hz
      go_wp2_with fail
      refine HC.out.mono ?_
      rintro e w5 ⟨rfl, hb5, d5, hf5⟩
      have HB5 := Lib.hid (hbl.out.trans hb5)
      have HF5 := Lib.hid hf5
      clear hb5 hf5
      go_wp2_with fail
      go_roundw
      case rel => exact ⟨j + 1, by omega, by go_num, HB5, Lib.hid ⟨d5, HF5.out⟩⟩
      case measure => simp [intOf]; omega
    · have hjn : j = m := by omega
      have HJ := Lib.hid hjn
      clear hjn
      go_wp2_with fail
      go_end0
      have e : ts.take j = ts := List.take_of_length_le (by have := HJ.out; have := HMT.out; omega)
      have h2 := HFL.out
      rw [e] at h2
      exact ⟨rfl, hbl.out, d', h2⟩

end Go.Proofs.Ytachjodnhgmoiaa
