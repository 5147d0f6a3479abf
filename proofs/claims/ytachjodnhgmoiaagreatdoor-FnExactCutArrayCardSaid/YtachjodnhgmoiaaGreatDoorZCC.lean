/- 7 texts in one: Fod PutB Put PutS LayImpl OwnZ ShL. -/
import Derived.Test.YtachjodnhgmoiaaGreatDoorFam
import Derived.Lib.SliceRun
import Derived.Test.YtachjodnhgmoiaaGreatDoorLayMem
import Derived.Test.YtachjodnhgmoiaaGreatDoorAside
import Derived.Test.YtachjodnhgmoiaaGreatDoorZCA
import Derived.Maps.AppendAt
import Derived.Deep.RegionLaw
import Derived.Deep.AppendLies
import Derived.Deep.CutRange
import Derived.Test.YtachjodnhgmoiaaGreatDoorClone
import Derived.Test.YtachjodnhgmoiaaGreatDoorZCB
import Derived.Shelf.Abstract
namespace Go.Proofs.YtachjodnhgmoiaaGreatDoor
/- Fod -/
section
open Go.RowKit

set_option maxHeartbeats 400000 in
theorem fod_any (d : Nat) (w : World) (hd : d ≤ 10) :
    Calls Tryz.prog 46 #[.int .i64 (d : Int)] w fun e w' => ∃ g, e = .returned (.agg #[.slice none 0 0, .slice (some ⟨g, 0, none⟩) d d]) ∧ w.grownBy w' none ∧ g < w'.heap.size ∧ w'.ownsRow w.heap.size 25 1 (.slice (some ⟨g, 0, none⟩) d d) d (List.replicate d (.slice none 0 0)) := by
  obtain ⟨i0, hi0, hz0, hz1, hz2⟩ := info_parts infoL
  have hmk : ∀ u : World, (Instr.makeSlice 32 (.int .i64 (d : Int)) (.int .i64 (d : Int))).run Tryz.prog u =
      .ok (.slice (some ⟨u.heap.size, 0, none⟩) d d) (u.alloc (.cells (madeCells #[.slice none 0 0] d) 25)) := fun u => by
    have h := run_make (P := Tryz.prog) u 32 25 i0 (.slice none 0 0) Tryz.underlying32 hi0 hz0 .i64 .i64 (d : Int) (d : Int) (by omega) (Int.le_refl _) (by rw [hz2]; omega) (by omega)
    simpa [hz1, Value.cells] using h
  have hcs : (madeCells #[.slice none 0 0] d).toList = List.replicate d (.slice none 0 0) := by
    refine List.eq_replicate_iff.2 ⟨by simp [madeCells], fun b hb => ?_⟩
    simp only [madeCells, Array.toList_map, List.mem_map] at hb
    obtain ⟨i, _, rfl⟩ := hb
    have : i % (#[Value.slice none 0 0] : Array Value).size = 0 := by simp [Nat.mod_one]
    rw [this]
    rfl
  have HCS := Lib.hid hcs
  clear hcs
  go_enter Tryz.func46, Tryz.ntmps46
  go_wp2_with fail
  have P := (Pr.new w 82 (.slice none 0 0) (.slice (some ⟨w.heap.size + 1, 0, none⟩) d d)).alloc (.cells (madeCells #[.slice none 0 0] d) 25)
  have r0 := P.c0
  have r1 := P.c1
  refine bodyPost_ret (v := .agg #[.slice none 0 0, .slice (some ⟨w.heap.size + 1, 0, none⟩) d d]) (by simp [results, Tryz.results46, go_sem, r0, r1]) rfl ?_
  have ho := World.ownsRow_lit (base := w.heap.size) (e := 25) (size := 1) (w.alloc (.cells #[.slice none 0 0, .slice (some ⟨w.heap.size + 1, 0, none⟩) d d] 82)) (madeCells #[.slice none 0 0] d) d (by simp) (by simp only [maxLen]; omega) (by simp [madeCells])
  rw [HCS.out, sz_alloc] at ho
  exact ⟨w.heap.size + 1, rfl, (World.grownBy_alloc _ _ _).trans (World.grownBy_alloc _ _ _), by simp, ho⟩
end

/- PutB -/
section
open Go.RowKit

theorem gr_drew (w : World) (row : Option Nat) : w.grownBy w.drew row := ⟨rfl, rfl, rfl, Nat.le_refl _, fun _ _ _ => rfl⟩
theorem Pr.row {w w1 : World} {base g0 n : Nat} {x y v : Value} {xs : List Value} {t : TypeId} (hp : Pr w g0 t x y) (ho : w.ownsRow base 3 1 v n xs) (ht : t ≠ 3) (hg : w.grownBy w1 v.ownBlock) : Pr w1 g0 t x y :=
  hp.grown hg (fun e => by
    rcases ho.2 with ⟨rfl, _⟩ | ⟨b, cap, cur, rfl, _, hb, _⟩
    · cases e
    · simp only [Value.ownBlock, Option.some.injEq] at e
      subst e
      unfold Pr at hp
      rw [hb] at hp
      cases hp
      exact ht rfl)
theorem below_row {w w1 : World} {base n : Nat} {v : Value} {xs : List Value} {e : TypeId} (ho : w.ownsRow base e 1 v n xs) (hb : base ≤ w.heap.size) (hg : w.grownBy w1 v.ownBlock) : Below base w w1 :=
  ⟨hg.os, hg.tape, hg.output, hg.size, fun k hk => hg.block k (Nat.lt_of_lt_of_le hk hb) (fun e => by have := (ho.lt k e.symm).1; omega)⟩
theorem below_set {w : World} {base g i : Nat} {u : Value} (h : base ≤ g) : Below base w (w.setCell ⟨g, i, none⟩ u) :=
  ⟨rfl, rfl, rfl, by simp [World.setCell], fun k hk => Below.heap_setCell _ _ _ _ (by simp; omega)⟩
theorem All2.nth {α β : Type} {R : α → β → Prop} : ∀ {l : List α} {m : List β} {j : Nat}, All2 R l m → j < m.length → ∃ a b, l[j]? = some a ∧ m[j]? = some b ∧ R a b
  | a :: l, b :: m, 0, ⟨h, _⟩, _ => ⟨a, b, rfl, rfl, h⟩
  | _ :: l, _ :: m, j + 1, ⟨_, h⟩, hj => by
    obtain ⟨a, b, h1, h2, h3⟩ := All2.nth (j := j) h (by simpa using hj)
    exact ⟨a, b, by simpa using h1, by simpa using h2, h3⟩
  | [], [], _, _, hj => by simp at hj
  | [], _ :: _, _, h, _ => h.elim
  | _ :: _, [], _, h, _ => h.elim
theorem own_below {w w' : World} {base b0 e n : Nat} {v : Value} {xs : List Value} (h : w.ownsRow b0 e 1 v n xs) (hS : ∀ g, v.ownBlock = some g → g < base) (hb : Below base w w') : w'.ownsRow b0 e 1 v n xs := own_keep h (fun g hg => hb.block g (hS g hg))
theorem Short.level {k : Nat} {LL : List (List Int)} {L : List Int} (h : Short LL) (hL : LL[k]? = some L) : L.length ≤ 1000000 := h k L hL
theorem parts_le {k d : Nat} {LL : List (List Int)} {ts : List (T (d + 1))} (hlen : LL.length = k + (d + 1)) (hs : Short (behind k LL (lv (d + 1) ts))) : ts.length ≤ 1000000 := by
  obtain ⟨L, hL⟩ : ∃ L, LL[k]? = some L := ⟨_, List.getElem?_eq_getElem (by omega)⟩
  have h1 : (LL.take k).length = k := by rw [List.length_take]; omega
  have h2 := hs k (L ++ ts.map fun t => ((prt t).length : Int)) (by
    rw [behind, drop_at hL, List.getElem?_append_right (by omega), h1]
    simp [lv, addL])
  rw [List.length_append, List.length_map] at h2
  omega
end

/- Put -/
section
open Go.RowKit



/-- The program's and the model's struct of levels and numbers. -/
def Flat (w : World) (base gf : Nat) (d : Value) (LL : List (List Int)) (D : List Int) : Prop :=
  ∃ g c, Pr w gf 82 d (.slice (some ⟨g, 0, none⟩) LL.length c) ∧ LaidAt w base g c d LL D ∧ base ≤ w.heap.size ∧ base ≤ gf

/-- The first statement of layParts: a length more at a level. -/
def LenPost (base gf k : Nat) (z : Int) (LL : List (List Int)) (D L : List Int) (d : Value) (w w' : World) : Prop := Below base w w' ∧ Flat w' base gf d (LL.set k (L ++ [z])) D

set_option maxHeartbeats 400000 in
theorem put_any (gf base : Nat) (z : Int) (d : Value) (LL : List (List Int)) (D : List Int) (w : World) (h : Flat w base gf d LL D) (hl : D.length ≤ 1000000) :
    Calls Tryz.prog 68 #[.pointer (some ⟨gf, 0, none⟩), .int .i64 z] w fun e w' => e = .returned (.tuple #[]) ∧ Below base w w' ∧ ∃ d', Flat w' base gf d' LL (D ++ [z]) := by
  obtain ⟨i0, hi0, hz0, hz1, hz2⟩ := info_parts infoJ
  obtain ⟨g, c, hp, h, hb, hgf⟩ := h
  have HP := Lib.hid hp
  obtain ⟨hown, hnext⟩ := h.data (z := z)
  have HN := Lib.hid hnext
  have c0 := hp.c0
  have f0 := hp.f 0
  have HO := Lib.hid hown
  obtain ⟨A, k, e, rfl⟩ := own_form hown
  obtain rfl : k = D.length := own_len2 hown
  have HH := Lib.hid h
  obtain ⟨q, hq⟩ : ∃ q, D.length = q := ⟨_, rfl⟩
  have HQ := Lib.hid hq
  rw [hq] at c0 hl
  clear h hp hown hnext hq
  go_enter Tryz.func68, Tryz.ntmps68
  have own1 : (w.alloc (.cells #[.int .i64 z] 3)).ownsRow base 3 1 (.slice A q e) q (D.map (Value.int .i64)) := by
    have := HO.out.alloc (.cells #[.int .i64 z] 3)
    rwa [HQ.out] at this
  go_wp2_with (at_builtin; refine wpList_append_own_at _ rfl _ _ 25 rfl base 3 i0 (.int .i64 0) 1 8 Tryz.underlying25 hi0 hz0 hz1 hz2 rfl (by decide) _ _ _ rfl own1 ⟨w.heap.size, 0, none⟩ 1 1 [.int .i64 z] rfl rfl (cell_one_new _ _ _) ?c2 ?c3 ?c4 ?c5 ?_)
  case c2 => simp [Value.oneCell']
  case c3 => simp only [maxLen]; omega
  case c4 => omega
  case c5 => simp; omega
  intro v8 w8 hown8 hg8 _ hat8
  have hg9 : w.grownBy w8 (Value.slice A q e).ownBlock := (World.grownBy_alloc w (.cells #[.int .i64 z] 3) _).trans hg8
  have hat : ∀ b, v8.ownBlock = some b → (Value.slice A q e).ownBlock = some b ∨ w.heap.size ≤ b := by
    intro b hb
    rcases hat8 with h | h
    · left; rw [← h]; exact hb
    · right; rw [hb] at h; simp at h; omega
  have hnx := HN.out w8 v8 (by rw [HQ.out]; exact hg9) (by rw [HQ.out]; exact hown8) (by rw [HQ.out]; exact hat)
  have hown0 : w.ownsRow base 3 1 (.slice A q e) q (D.map (Value.int .i64)) := by have := HO.out; rwa [HQ.out] at this
  have P8 := (show Pr w gf 82 (.slice A q e) (.slice (some ⟨g, 0, none⟩) LL.length c) by have := HP.out; rwa [HQ.out] at this).row hown0 (by decide) hg9
  have e0 := P8.c0
  have e1 := P8.f 0
  obtain ⟨A8, m8, c8, rfl⟩ := own_form hown8
  have HNX := Lib.hid hnx
  have HP8 := Lib.hid P8
  have HB8 := Lib.hid (below_row hown0 hb hg9)
  have HS8 := Lib.hid hg9.size
  clear hown8 hg8 hat8 hg9 hat hnx hown0 P8 own1 c0 f0
  go_wp2_with fail
  go_end0
  have hs9 := gr_set w8 gf 0 (.slice A8 m8 c8)
  exact ⟨rfl, HB8.out.trans (below_set hgf), _, g, c, HP8.out.set0 _, HNX.out.other HP8.out (by decide) (by decide) hs9, Nat.le_trans hb (Nat.le_trans HS8.out hs9.size), hgf⟩

/-- The first statement's facts: the level's row, and what the store does. -/
theorem len_step {w : World} {base gf k : Nat} {z : Int} {d : Value} {LL : List (List Int)} {D L : List Int} (h : Flat w base gf d LL D) (hL : LL[k]? = some L) :
    ∃ g c A e, Pr w gf 82 d (.slice (some ⟨g, 0, none⟩) LL.length c) ∧ k < LL.length ∧ w.cell? ⟨g, k, none⟩ = some (.slice A L.length e) ∧ w.frozen? ⟨g, k, none⟩ = false ∧ base ≤ w.heap.size ∧
      w.ownsRow base 3 1 (.slice A L.length e) L.length (L.map (Value.int .i64)) ∧
      ∀ (w1 : World) (gg cap : Nat), w.grownBy w1 (Value.slice A L.length e).ownBlock → w1.ownsRow base 3 1 (.slice (some ⟨gg, 0, none⟩) (L.length + 1) cap) (L.length + 1) (L.map (Value.int .i64) ++ [.int .i64 z]) → ((Value.slice A L.length e).ownBlock = some gg ∨ w.heap.size ≤ gg) →
        (∃ y, w1.cell? ⟨g, k, none⟩ = some y) ∧ w1.frozen? ⟨g, k, none⟩ = false ∧ w1.cell? ⟨gf, 1, none⟩ = some (.slice (some ⟨g, 0, none⟩) LL.length c) ∧
        Below base w (w1.setCell ⟨g, k, none⟩ (.slice (some ⟨gg, 0, none⟩) (L.length + 1) cap)) ∧ Flat (w1.setCell ⟨g, k, none⟩ (.slice (some ⟨gg, 0, none⟩) (L.length + 1) cap)) base gf d (LL.set k (L ++ [z])) D := by
  obtain ⟨g, c, hp, h, hb, hgf⟩ := h
  obtain ⟨v, hc, hf, ho, hnx⟩ := h.level (z := z) hL
  have hk : k < LL.length := (List.getElem?_eq_some_iff.1 hL).1
  obtain ⟨A, m, e, rfl⟩ := own_form ho
  obtain rfl : m = L.length := own_len2 ho
  refine ⟨g, c, A, e, hp, hk, hc, hf, hb, ho, fun w1 gg cap hg hw hat => ?_⟩
  obtain ⟨hy, hf1, hl⟩ := hnx w1 (.slice (some ⟨gg, 0, none⟩) (L.length + 1) cap) hg hw (fun b hb => by cases hb; exact hat)
  have hp1 := hp.row ho (by decide) hg
  obtain ⟨vs, hov, _⟩ := h
  have hgb := (hov.lt g rfl).1
  have hs := gr_set w1 g k (.slice (some ⟨gg, 0, none⟩) (L.length + 1) cap)
  have hne : some gf ≠ some g := fun e2 => by
    cases e2
    obtain ⟨cs, hcs⟩ := own_cells hov
    unfold Pr at hp
    rw [hp] at hcs
    cases hcs
  refine ⟨hy, hf1, hp1.c1, (below_row ho hb hg).trans (below_set hgb), g, c, ?_, hl, Nat.le_trans hb (Nat.le_trans hg.size hs.size), hgf⟩
  have := hp1.grown hs hne
  rwa [List.length_set]

theorem prow1 {w : World} {base e : Nat} {A : Option Addr} {k c : Nat} {xs : List Value} (h : w.ownsRow base e 1 (.slice A k c) xs.length xs) :
    k = xs.length ∧ (0 < k → ∃ g, A = some ⟨g, 0, none⟩ ∧ ∀ (j : Nat) (x : Value), xs[j]? = some x → w.cell? ⟨g, j, none⟩ = some x) := by
  rcases h.2 with ⟨hv, hn⟩ | ⟨g, cap, cur, hv, _, hg, hnc, _, hcs, htake⟩
  · cases hv
    exact ⟨by omega, fun h => by omega⟩
  · cases hv
    refine ⟨rfl, fun _ => ⟨g, rfl, fun j x hj => ?_⟩⟩
    have hjl := (List.getElem?_eq_some_iff.1 hj).1
    rw [cell_of_row w g j _ _ (0, 0) hg]
    have : (cur.toList.take (xs.length * 1))[j]? = some x := by rw [htake, hj]
    rw [List.getElem?_take, if_pos (by omega)] at this
    simpa using this
theorem RepI.below {w w' : World} {S : Nat → Prop} {base d : Nat} {t : T d} {v : Value} (h : RepI w S d t v) (hS : ∀ b, S b → b < base) (hb : Below base w w') : RepI w' S d t v :=
  RepI.keep (fun b hs _ => hb.block b (hS b hs)) (fun _ hs _ => hs) d t v h

/-- What lay does with an array of a depth. -/
def LayP (d : Nat) : Prop := ∀ (t : T d) (gf base k : Nat) (S : Nat → Prop) (v d0 : Value) (LL : List (List Int)) (D : List Int) (w : World), Flat w base gf d0 LL D → RepI w S d t v → (∀ b, S b → b < base) → LL.length = k + d → k + d ≤ 10 → Short (behind k LL (lv d [t])) → (D ++ dat d [t]).length ≤ 1000000 →
  Calls Tryz.prog 47 #[.pointer (some ⟨gf, 0, none⟩), v, .int .i64 k] w fun e w' => e = .returned (.tuple #[]) ∧ Below base w w' ∧ ∃ d', Flat w' base gf d' (behind k LL (lv d [t])) (D ++ dat d [t])


set_option maxRecDepth 100000 in
set_option maxHeartbeats 4000000 in
theorem layq0 (ih : LayP 0) (ts : List (T 0)) (gf base k : Nat) (S : Nat → Prop) (A : Option Addr) (m e : Nat) (xs : List Value) (d : Value) (LL : List (List Int)) (D : List Int) (w : World) (h : Flat w base gf d LL D)
    (hx : w.ownsRow 0 (elT 0) 1 (.slice A m e) xs.length xs) (hxs : ∀ g, (Value.slice A m e).ownBlock = some g → S g) (ha : All2 (Nd w S 0) ts xs) (hS : ∀ b, S b → b < base) (hlen : LL.length = k + (0 + 1)) (hk10 : k + (0 + 1) ≤ 10)
    (hsh : Short (behind k LL (lv (0 + 1) [(show T (0 + 1) from ts)]))) (hdl : (D ++ dat (0 + 1) [(show T (0 + 1) from ts)]).length ≤ 1000000) (hts : ts.length ≤ 1000000) :
    Calls Tryz.prog 69 #[.pointer (some ⟨gf, 0, none⟩), .slice A m e, .int .i64 k] w fun e w' => e = .returned (.tuple #[]) ∧ Below base w w' ∧ ∃ d', Flat w' base gf d' (behind k LL (lv (0 + 1) [(show T (0 + 1) from ts)])) (D ++ dat (0 + 1) [(show T (0 + 1) from ts)]) := by
  obtain ⟨L, hL⟩ : ∃ L, LL[k]? = some L := ⟨_, List.getElem?_eq_getElem (by omega)⟩
  have hl : L.length ≤ 1000000 := (hsh.of_behind hlen (lv_len _ _)).level hL
  have hmt : ts.length = m := by rw [(prow1 hx).1]; exact All2.length _ _ ha
  have hn1 : (LL.set k (L ++ [(m : Int)])).length = k + 1 + 0 := by rw [List.length_set]; omega
  have hbe : behind k LL (lv (0 + 1) [(show T (0 + 1) from ts)]) = behind (k + 1) (LL.set k (L ++ [(m : Int)])) (lv 0 ts) := by
    rw [← hmt]; exact behind_node _ hlen hL
  have hde : dat (0 + 1) [(show T (0 + 1) from ts)] = dat 0 ts := dat_one 0 _
  rw [hbe] at hsh
  rw [hde] at hdl
  rw [hbe, hde]
  have HSH := Lib.hid hsh
  have HDL := Lib.hid hdl
  have HN1 := Lib.hid hn1
  have HMT := Lib.hid hmt
  have HX := Lib.hid (fun (w' : World) (hb : Below base w w') => own_below hx (fun g hg => hS g (hxs g hg)) hb)
  have HA := Lib.hid ha
  have HSS := Lib.hid hS
  have HI := Lib.hid ih
  have HXL := Lib.hid (All2.length _ _ ha)
  have hm6 : m ≤ 1000000 := by omega
  clear hbe hde hsh hdl hn1 hmt hx hxs ha hS ih hlen
  obtain ⟨i0, hi0, hz0, hz1, hz2⟩ := info_parts infoJ
  obtain ⟨g, c, A2, e2, hp, hk, hc, hf, hb, ho, hnx⟩ := len_step (z := (m : Int)) h hL
  have c1 := hp.c1
  have HNX := Lib.hid hnx
  have HO := Lib.hid ho
  obtain ⟨q, hq⟩ : ∃ q, L.length = q := ⟨_, rfl⟩
  obtain ⟨n, hn⟩ : ∃ n, LL.length = n := ⟨_, rfl⟩
  rw [hn] at c1 hk
  rw [hq] at hc hl
  rw [hq, hn] at HNX
  rw [hq] at HO
  have own7 := (HO.out.alloc (.cells #[.int .i64 (m : Int)] 3)).kept (gr_drew _ none) (by cases hv : (Value.slice A2 q e2).ownBlock <;> simp)
  have hc2 := (World.grownBy_alloc w (.cells #[.int .i64 (m : Int)] 3) none).cell hc (by simp)
  have hc3 : ((w.alloc (.cells #[.int .i64 (m : Int)] 3)).drew).cell? ⟨g, k, none⟩ = _ := hc2
  have c2 := (World.grownBy_alloc w (.cells #[.int .i64 (m : Int)] 3) none).cell c1 (by simp)
  have c3 : ((w.alloc (.cells #[.int .i64 (m : Int)] 3)).drew).cell? ⟨gf, 1, none⟩ = _ := c2
  clear hL h hp hnx ho hq hn
  go_enter Tryz.func69, Tryz.ntmps69
  go_wp2_with fail
  go_cut [] from 8 to 24 (fun wx => Hid (Below base w wx) ∧ Hid (Flat wx base gf d (LL.set k (L ++ [(m : Int)])) D))
  case first =>
   go_region_law (first
    | (refine step_append_lies _ (by rfl) _ _ _ (by rfl) base 3 i0 _ 1 8 Tryz.underlying25 hi0 hz0 hz1 hz2 rfl (by omega) (.slice A2 q e2) q (L.map (Value.int .i64)) (by rfl) own7 ⟨w.heap.size, 0, none⟩ 1 1 [.int .i64 (m : Int)] (by rfl) (by rfl) (World.news_of_block (cs := #[.int .i64 (m : Int)]) (t := 3) (fr := (0, 0)) (heap_alloc_new _ _)) (by simp [Value.oneCell']) (by omega) (by simp only [maxLen]; omega) (by omega) (by simp; omega) (w.heap.size + 1) (by simp) ?_
       intro gg cap w8 hown8 hg8 hat8 _
       obtain ⟨⟨y8, hy8⟩, hf8, hc8, hb8, hF8⟩ := HNX.out w8 gg cap (((World.grownBy_alloc w (.cells #[.int .i64 (m : Int)] 3) _).trans (gr_drew _ _)).trans hg8) hown8 (by rcases hat8 with h | h; exact .inl h; right; omega)
       have HB8 := Lib.hid hb8
       have HF8 := Lib.hid hF8
       clear hown8 hg8 hat8 hb8 hF8))
   all_goals
     go_wp2_with fail
     go_meet
     exact ⟨HB8, HF8⟩
  case rest =>
   obtain ⟨HB1, HF1⟩ := hcut
   go_wp2_with fail
   have wk : IntKind.i64.wrap ((k : Int) + 1) = (k : Int) + 1 := IntWalk.i64_in _ (by omega)
   go_loopw [27] (fun i wr => ∃ (j : Nat), j ≤ m ∧ i = .int .i64 j ∧ Hid (Below base w wr) ∧ Hid (∃ d', Flat wr base gf d' (behind (k + 1) (LL.set k (L ++ [(m : Int)])) (lv 0 (ts.take j))) (D ++ dat 0 (ts.take j)))) (fun i _ => m - (intOf i).toNat)
   case atStart => exact ⟨0, Nat.zero_le _, rfl, HB1, Lib.hid ⟨d, by rw [List.take_zero, behind_nil HN1.out, dat_nil, List.append_nil]; exact HF1.out⟩⟩
   case round =>
    obtain ⟨j, hj, rfl, hbl, hfe⟩ := hrel
    obtain ⟨d', hfl⟩ := hfe.out
    have HFL := Lib.hid hfl
    clear hfl
    by_cases hlt : j < m
    · obtain ⟨t, x, ht, hx, hnd⟩ := All2.nth (j := j) HA.out (by have := HXL.out; have := HMT.out; omega)
      obtain ⟨g3, rfl, hcells⟩ := (prow1 (HX.out wr hbl.out)).2 (by omega)
      have hcell := hcells j x hx
      have HT := Lib.hid ht
      obtain rfl : x = .int .i64 ((show Nat from t : Nat) : Int) := hnd
      have HC := Lib.hid (HI.out t gf base (k + 1) S (.iface 119 (.int .i64 ((show Nat from t : Nat) : Int))) d' _ _ wr HFL.out rfl HSS.out (behind_len HN1.out (lv_len 0 _)) (by omega)
        (by rw [behind_step HN1.out ht]; exact HSH.out.part HN1.out) (by rw [List.append_assoc, ← dat_step ht, List.length_append]; have := dat_part (d := 0) (ts := ts) (j + 1); have := HDL.out; rw [List.length_append] at this; omega))
      rw [behind_step HN1.out ht, List.append_assoc, ← dat_step ht] at HC
      obtain ⟨z, hz⟩ : ∃ z : Int, ((show Nat from t : Nat) : Int) = z := ⟨_, rfl⟩
      rw [hz] at hcell HC
      rw [show ((k + 1 : Nat) : Int) = (k : Int) + 1 from by omega] at HC
      clear ht hx hcells hz
      go_wp2_with fail
      refine HC.out.mono ?_
      rintro e w5 ⟨rfl, hb5, d5, hf5⟩
      have HB5 := Lib.hid (hbl.out.trans hb5)
      have HF5 := Lib.hid hf5
      clear hb5 hf5
      go_wp2_with fail
      go_roundw
      case rel => exact ⟨j + 1, by omega, by go_num, HB5, Lib.hid ⟨d5, HF5.out⟩⟩
      case measure => simp [intOf]; omega
    · have hjn : j = m := by omega
      have HJ := Lib.hid hjn
      clear hjn
      go_wp2_with fail
      go_end0
      have e : ts.take j = ts := List.take_of_length_le (by have := HJ.out; have := HMT.out; omega)
      have h2 := HFL.out
      rw [e] at h2
      exact ⟨rfl, hbl.out, d', h2⟩
end

/- PutS -/
section
open Go.RowKit

theorem tb00 (v : Value) (xT : TypeId) (w : World) : (Instr.typeAssert (.iface 119 v) xT 119 true).run Tryz.prog w = .ok (.tuple #[v, .bool true]) w := by
  simp [Instr.typeAssert, run_underlying Tryz.underlying119, go_sem, Result.andThen]
theorem tb10 (v : Value) (xT : TypeId) (w : World) : (Instr.typeAssert (.iface 121 v) xT 119 true).run Tryz.prog w = .ok (.tuple #[.int .i64 0, .bool false]) w := by
  simp [Instr.typeAssert, run_underlying Tryz.underlying119, go_sem, Result.andThen]
theorem tb11 (v : Value) (xT : TypeId) (w : World) : (Instr.typeAssert (.iface 121 v) xT 121 true).run Tryz.prog w = .ok (.tuple #[v, .bool true]) w := by
  simp [Instr.typeAssert, run_underlying Tryz.underlying121, go_sem, Result.andThen]
theorem tb20 (v : Value) (xT : TypeId) (w : World) : (Instr.typeAssert (.iface 126 v) xT 119 true).run Tryz.prog w = .ok (.tuple #[.int .i64 0, .bool false]) w := by
  simp [Instr.typeAssert, run_underlying Tryz.underlying119, go_sem, Result.andThen]
theorem tb21 (v : Value) (xT : TypeId) (w : World) : (Instr.typeAssert (.iface 126 v) xT 121 true).run Tryz.prog w = .ok (.tuple #[.pointer none, .bool false]) w := by
  simp [Instr.typeAssert, run_underlying Tryz.underlying121, go_sem, Result.andThen]
theorem tb22 (v : Value) (xT : TypeId) (w : World) : (Instr.typeAssert (.iface 126 v) xT 126 true).run Tryz.prog w = .ok (.tuple #[v, .bool true]) w := by
  simp [Instr.typeAssert, run_underlying Tryz.underlying126, go_sem, Result.andThen]

set_option maxHeartbeats 400000 in
theorem lay0 : LayP 0 := by
  intro t gf base k S v d0 LL D w h hr hS hlen hk hsh hdl
  obtain rfl : v = .iface 119 (.int .i64 ((show Nat from t : Nat) : Int)) := hr
  have hll : LL.length = k := by omega
  have e1 : behind k LL (lv 0 [t]) = LL := by
    rw [behind, List.take_of_length_le (by omega), List.drop_of_length_le (by omega)]
    simp [addL]
  obtain ⟨z, hz⟩ : ∃ z : Int, ((show Nat from t : Nat) : Int) = z := ⟨_, rfl⟩
  have e2 : dat 0 [t] = [z] := by rw [← hz]; rfl
  rw [e2, List.length_append] at hdl
  have HP := Lib.hid (fun w h => put_any gf base z d0 LL D w h (by omega))
  have H := Lib.hid h
  rw [e1, e2, hz]
  have hta := tb00
  clear h hS hsh hdl e1 e2 hz hlen hll
  go_enter Tryz.func47, Tryz.ntmps47
  go_wp2_with fail
  refine (HP.out _ H.out).mono ?_
  rintro e w1 ⟨rfl, hb1, d', hf1⟩
  have HB := Lib.hid hb1
  have HF := Lib.hid hf1
  clear hb1 hf1
  go_wp2_with fail
  go_end0
  exact ⟨rfl, HB.out, d', HF.out⟩

set_option maxHeartbeats 1000000 in
theorem lay1 : LayP 1 := by
  intro t gf base k S v d0 LL D w h hr hS hlen hk hsh hdl
  obtain ⟨b, sv, xs, rfl, hb, hh, ho, hxs, ha⟩ := hr
  obtain ⟨A, m, c, rfl⟩ := own_form ho
  have hts : (show List (T 0) from t).length ≤ 1000000 := by
    rw [List.length_append] at hdl
    have e : dat 1 [t] = dat 0 (prt t) := dat_one 0 t
    rw [e] at hdl
    have e2 : (dat 0 (prt t)).length = (show List (T 0) from t).length := List.length_map _
    omega
  have HQ := Lib.hid (layq0 lay0 (show List (T 0) from t) gf base k S A m c xs d0 LL D w h ho hxs ha hS hlen hk hsh hdl hts)
  have hc : w.cell? ⟨b, 0, none⟩ = some (.slice A m c) := by simp [World.cell?, hh]
  have hta := tb10
  have htb := tb11
  simp only [ptrT]
  clear h hb hh ho hxs ha hS hlen hsh hdl hts
  go_enter Tryz.func47, Tryz.ntmps47
  go_wp2_with fail
  refine HQ.out.mono ?_
  rintro e w1 ⟨rfl, hb1, d', hf1⟩
  have HB := Lib.hid hb1
  have HF := Lib.hid hf1
  clear hb1 hf1 HQ
  go_wp2_with fail
  go_end0
  exact ⟨rfl, HB.out, d', HF.out⟩

set_option maxRecDepth 100000 in
set_option maxHeartbeats 4000000 in
theorem layqS (dd : Nat) (ih : LayP (dd + 1)) (ts : List (T (dd + 1))) (gf base k : Nat) (S : Nat → Prop) (A : Option Addr) (m e : Nat) (xs : List Value) (d : Value) (LL : List (List Int)) (D : List Int) (w : World) (h : Flat w base gf d LL D)
    (hx : w.ownsRow 0 (elT (dd + 1)) 1 (.slice A m e) xs.length xs) (hxs : ∀ g, (Value.slice A m e).ownBlock = some g → S g) (ha : All2 (Nd w S (dd + 1)) ts xs) (hS : ∀ b, S b → b < base) (hlen : LL.length = k + (dd + 1 + 1)) (hk10 : k + (dd + 1 + 1) ≤ 10)
    (hsh : Short (behind k LL (lv (dd + 1 + 1) [(show T (dd + 1 + 1) from ts)]))) (hdl : (D ++ dat (dd + 1 + 1) [(show T (dd + 1 + 1) from ts)]).length ≤ 1000000) (hts : ts.length ≤ 1000000) :
    Calls Tryz.prog 70 #[.pointer (some ⟨gf, 0, none⟩), .slice A m e, .int .i64 k] w fun e w' => e = .returned (.tuple #[]) ∧ Below base w w' ∧ ∃ d', Flat w' base gf d' (behind k LL (lv (dd + 1 + 1) [(show T (dd + 1 + 1) from ts)])) (D ++ dat (dd + 1 + 1) [(show T (dd + 1 + 1) from ts)]) := by
  obtain ⟨L, hL⟩ : ∃ L, LL[k]? = some L := ⟨_, List.getElem?_eq_getElem (by omega)⟩
  have hl : L.length ≤ 1000000 := (hsh.of_behind hlen (lv_len _ _)).level hL
  have hmt : ts.length = m := by rw [(prow1 hx).1]; exact All2.length _ _ ha
  have hn1 : (LL.set k (L ++ [(m : Int)])).length = k + 1 + (dd + 1) := by rw [List.length_set]; omega
  have hbe : behind k LL (lv (dd + 1 + 1) [(show T (dd + 1 + 1) from ts)]) = behind (k + 1) (LL.set k (L ++ [(m : Int)])) (lv (dd + 1) ts) := by
    rw [← hmt]; exact behind_node _ hlen hL
  have hde : dat (dd + 1 + 1) [(show T (dd + 1 + 1) from ts)] = dat (dd + 1) ts := dat_one (dd + 1) _
  rw [hbe] at hsh
  rw [hde] at hdl
  rw [hbe, hde]
  have HSH := Lib.hid hsh
  have HDL := Lib.hid hdl
  have HN1 := Lib.hid hn1
  have HMT := Lib.hid hmt
  have HX := Lib.hid (fun (w' : World) (hb : Below base w w') => own_below hx (fun g hg => hS g (hxs g hg)) hb)
  have HA := Lib.hid ha
  have HSS := Lib.hid hS
  have HI := Lib.hid ih
  have HXL := Lib.hid (All2.length _ _ ha)
  have hm6 : m ≤ 1000000 := by omega
  clear hbe hde hsh hdl hn1 hmt hx hxs ha hS ih hlen
  obtain ⟨i0, hi0, hz0, hz1, hz2⟩ := info_parts infoJ
  obtain ⟨g, c, A2, e2, hp, hk, hc, hf, hb, ho, hnx⟩ := len_step (z := (m : Int)) h hL
  have c1 := hp.c1
  have HNX := Lib.hid hnx
  have HO := Lib.hid ho
  obtain ⟨q, hq⟩ : ∃ q, L.length = q := ⟨_, rfl⟩
  obtain ⟨n, hn⟩ : ∃ n, LL.length = n := ⟨_, rfl⟩
  rw [hn] at c1 hk
  rw [hq] at hc hl
  rw [hq, hn] at HNX
  rw [hq] at HO
  have own7 := (HO.out.alloc (.cells #[.int .i64 (m : Int)] 3)).kept (gr_drew _ none) (by cases hv : (Value.slice A2 q e2).ownBlock <;> simp)
  have hc2 := (World.grownBy_alloc w (.cells #[.int .i64 (m : Int)] 3) none).cell hc (by simp)
  have hc3 : ((w.alloc (.cells #[.int .i64 (m : Int)] 3)).drew).cell? ⟨g, k, none⟩ = _ := hc2
  have c2 := (World.grownBy_alloc w (.cells #[.int .i64 (m : Int)] 3) none).cell c1 (by simp)
  have c3 : ((w.alloc (.cells #[.int .i64 (m : Int)] 3)).drew).cell? ⟨gf, 1, none⟩ = _ := c2
  clear hL h hp hnx ho hq hn
  go_enter Tryz.func70, Tryz.ntmps70
  go_wp2_with fail
  go_cut [] from 8 to 24 (fun wx => Hid (Below base w wx) ∧ Hid (Flat wx base gf d (LL.set k (L ++ [(m : Int)])) D))
  case first =>
   go_region_law (first
    | (refine step_append_lies _ (by rfl) _ _ _ (by rfl) base 3 i0 _ 1 8 Tryz.underlying25 hi0 hz0 hz1 hz2 rfl (by omega) (.slice A2 q e2) q (L.map (Value.int .i64)) (by rfl) own7 ⟨w.heap.size, 0, none⟩ 1 1 [.int .i64 (m : Int)] (by rfl) (by rfl) (World.news_of_block (cs := #[.int .i64 (m : Int)]) (t := 3) (fr := (0, 0)) (heap_alloc_new _ _)) (by simp [Value.oneCell']) (by omega) (by simp only [maxLen]; omega) (by omega) (by simp; omega) (w.heap.size + 1) (by simp) ?_
       intro gg cap w8 hown8 hg8 hat8 _
       obtain ⟨⟨y8, hy8⟩, hf8, hc8, hb8, hF8⟩ := HNX.out w8 gg cap (((World.grownBy_alloc w (.cells #[.int .i64 (m : Int)] 3) _).trans (gr_drew _ _)).trans hg8) hown8 (by rcases hat8 with h | h; exact .inl h; right; omega)
       have HB8 := Lib.hid hb8
       have HF8 := Lib.hid hF8
       clear hown8 hg8 hat8 hb8 hF8))
   all_goals
     go_wp2_with fail
     go_meet
     exact ⟨HB8, HF8⟩
  case rest =>
   obtain ⟨HB1, HF1⟩ := hcut
   go_wp2_with fail
   have wk : IntKind.i64.wrap ((k : Int) + 1) = (k : Int) + 1 := IntWalk.i64_in _ (by omega)
   go_loopw [27] (fun i wr => ∃ (j : Nat), j ≤ m ∧ i = .int .i64 j ∧ Hid (Below base w wr) ∧ Hid (∃ d', Flat wr base gf d' (behind (k + 1) (LL.set k (L ++ [(m : Int)])) (lv (dd + 1) (ts.take j))) (D ++ dat (dd + 1) (ts.take j)))) (fun i _ => m - (intOf i).toNat)
   case atStart => exact ⟨0, Nat.zero_le _, rfl, HB1, Lib.hid ⟨d, by rw [List.take_zero, behind_nil HN1.out, dat_nil, List.append_nil]; exact HF1.out⟩⟩
   case round =>
    obtain ⟨j, hj, rfl, hbl, hfe⟩ := hrel
    obtain ⟨d', hfl⟩ := hfe.out
    have HFL := Lib.hid hfl
    clear hfl
    by_cases hlt : j < m
    · obtain ⟨t, x, ht, hx, hnd⟩ := All2.nth (j := j) HA.out (by have := HXL.out; have := HMT.out; omega)
      obtain ⟨g3, rfl, hcells⟩ := (prow1 (HX.out wr hbl.out)).2 (by omega)
      have hcell := hcells j x hx
      have HT := Lib.hid ht
      have HND := Lib.hid (RepI.below (d := dd + 1) (t := t) hnd HSS.out hbl.out)
      obtain ⟨ty, pv, rfl⟩ := RepI.iface (d := dd + 1) (t := t) hnd
      clear hnd
      have HC := Lib.hid (HI.out t gf base (k + 1) S (.iface ty pv) d' _ _ wr HFL.out HND.out HSS.out (behind_len HN1.out (lv_len (dd + 1) _)) (by omega)
        (by rw [behind_step HN1.out ht]; exact HSH.out.part HN1.out) (by rw [List.append_assoc, ← dat_step ht, List.length_append]; have := dat_part (d := dd + 1) (ts := ts) (j + 1); have := HDL.out; rw [List.length_append] at this; omega))
      rw [behind_step HN1.out ht, List.append_assoc, ← dat_step ht] at HC
      rw [show ((k + 1 : Nat) : Int) = (k : Int) + 1 from by omega] at HC
      clear ht hx hcells
      go_wp2_with fail
      refine HC.out.mono ?_
      rintro e w5 ⟨rfl, hb5, d5, hf5⟩
      have HB5 := Lib.hid (hbl.out.trans hb5)
      have HF5 := Lib.hid hf5
      clear hb5 hf5
      go_wp2_with fail
      go_roundw
      case rel => exact ⟨j + 1, by omega, by go_num, HB5, Lib.hid ⟨d5, HF5.out⟩⟩
      case measure => simp [intOf]; omega
    · have hjn : j = m := by omega
      have HJ := Lib.hid hjn
      clear hjn
      go_wp2_with fail
      go_end0
      have e : ts.take j = ts := List.take_of_length_le (by have := HJ.out; have := HMT.out; omega)
      have h2 := HFL.out
      rw [e] at h2
      exact ⟨rfl, hbl.out, d', h2⟩


set_option maxHeartbeats 1000000 in
theorem layS (dd : Nat) (ih : LayP (dd + 1)) : LayP (dd + 1 + 1) := by
  intro t gf base k S v d0 LL D w h hr hS hlen hk hsh hdl
  obtain ⟨b, sv, xs, rfl, hb, hh, ho, hxs, ha⟩ := hr
  obtain ⟨A, m, c, rfl⟩ := own_form ho
  have HQ := Lib.hid (layqS dd ih (show List (T (dd + 1)) from t) gf base k S A m c xs d0 LL D w h ho hxs ha hS hlen hk hsh hdl (by
    obtain ⟨L, hL⟩ : ∃ L, LL[k]? = some L := ⟨_, List.getElem?_eq_getElem (by omega)⟩
    rw [behind_node t hlen hL] at hsh
    exact parts_le (by rw [List.length_set]; omega) hsh))
  have hc : w.cell? ⟨b, 0, none⟩ = some (.slice A m c) := by simp [World.cell?, hh]
  have hta := tb20
  have htb := tb21
  have htc := tb22
  simp only [ptrT]
  clear h hb hh ho hxs ha hS hlen hsh hdl
  go_enter Tryz.func47, Tryz.ntmps47
  go_wp2_with fail
  refine HQ.out.mono ?_
  rintro e w1 ⟨rfl, hb1, d', hf1⟩
  have HB := Lib.hid hb1
  have HF := Lib.hid hf1
  clear hb1 hf1 HQ
  go_wp2_with fail
  go_end0
  exact ⟨rfl, HB.out, d', HF.out⟩

theorem lay_any : ∀ d, LayP d
  | 0 => lay0
  | 1 => lay1
  | d + 2 => layS d (lay_any (d + 1))
end

/- LayImpl -/
section
open Go.RowKit

/-- How LayOut of the program ends. -/
def LIPost (s : ByteArray) (n : Int) (w : World) (e : Ending) (w' : World) : Prop :=
  (isArr s n = false ∧ e = .returned (.tuple #[.agg #[.slice none 0 0, .slice none 0 0], .bool false]) ∧ w.grownBy w' none) ∨
  (isArr s n = true ∧ ∃ t u, readN s n.toNat = some t ∧ e = .returned (.tuple #[u, .bool true]) ∧ w.grownBy w' none ∧ OwnLyt w' w.heap.size u (lv n.toNat [t]) (dat n.toNat [t]))

theorem flat_start {w w1 : World} {d g : Nat} (hg : w.heap.size ≤ w1.heap.size) (h : w1.ownsRow w.heap.size 25 1 (.slice (some ⟨g, 0, none⟩) d d) d (List.replicate d (.slice none 0 0))) :
    Flat (w1.alloc (.cells #[.slice none 0 0, .slice (some ⟨g, 0, none⟩) d d] 82)) w.heap.size w1.heap.size (.slice none 0 0) (List.replicate d []) [] := by
  have hp := Pr.new w1 82 (.slice none 0 0) (.slice (some ⟨g, 0, none⟩) d d)
  refine ⟨g, d, by rw [List.length_replicate]; exact hp, ⟨List.replicate d (.slice none 0 0), ?_, ?_⟩, by simp; omega, hg⟩
  · rw [List.length_replicate]
    exact h.alloc _
  · have e1 : List.replicate d (Value.slice none 0 0) ++ [.slice none 0 0] = List.replicate (d + 1) (.slice none 0 0) := by rw [List.replicate_succ']
    have e2 : List.replicate d ([] : List Int) ++ [[]] = List.replicate (d + 1) [] := by rw [List.replicate_succ']
    rw [e1, e2]
    refine ⟨by simp, fun i v L hv hL => ?_, fun i j v u g _ hv _ hg => ?_⟩
    · rw [List.getElem?_replicate] at hv hL
      split at hv
      · rename_i hi
        rw [if_pos hi] at hL
        cases hv
        cases hL
        exact World.ownsRow_nil _ _ _ _
      · cases hv
    · rw [List.getElem?_replicate] at hv
      split at hv
      · cases hv; cases hg
      · cases hv

theorem OwnLyt.box {w w' : World} {base g0 : Nat} {u : Value} {LL : List (List Int)} {D : List Int} {x y : Value} (h : OwnLyt w base u LL D) (hp : Pr w g0 59 x y) (hg : w.grownBy w' (some g0)) : OwnLyt w' base u LL D := by
  obtain ⟨A, c, d, vs, rfl, hc, ho, hf⟩ := h
  exact ⟨A, c, d, vs, rfl, hc, own_box ho hp (by decide) hg, hf.box hp (by decide) hg⟩
theorem OwnLyt.low {w : World} {base base' : Nat} {u : Value} {LL : List (List Int)} {D : List Int} (h : OwnLyt w base u LL D) (hb : base' ≤ base) : OwnLyt w base' u LL D := by
  obtain ⟨A, c, d, vs, rfl, hc, ho, hf⟩ := h
  exact ⟨A, c, d, vs, rfl, hc, own_base ho hb, hf.low hb⟩

set_option maxRecDepth 100000 in
set_option maxHeartbeats 1000000 in
theorem layout_impl (s : ByteArray) (n : Int) (w : World) : Calls Tryz.prog 31 #[.string s, .int .i64 n] w (LIPost s n w) := by
  by_cases h : 0 ≤ n ∧ n ≤ 3 ∧ s.size ≤ 400
  · obtain ⟨d, hd⟩ : ∃ d : Nat, n = d := ⟨n.toNat, by omega⟩
    subst hd
    have hdn : (d : Int).toNat = d := Int.toNat_natCast d
    have hd3 : d ≤ 3 := by omega
    have HC := Lib.hid (fun u => nest_in (d : Int) d s u rfl (by omega) (by omega) h.2.2)
    unfold LIPost
    rw [hdn]
    cases hr : readN s d with
    | none =>
      have hv : isArr s d = false := by unfold isArr; rw [hdn, hr]; simp
      have HR := Lib.hid hr
      have HV := Lib.hid hv
      clear h hv hr hdn
      go_enter Tryz.func31, Tryz.ntmps31
      go_wp2_with fail
      refine (HC.out _).mono ?_
      intro e w1 hp
      unfold NestPost at hp
      rw [HR.out] at hp
      obtain ⟨rfl, hg⟩ := hp
      have HG := Lib.hid ((World.grownBy_alloc w (.cells #[.slice none 0 0, .slice none 0 0] 59) none).trans hg)
      have HP := Lib.hid ((Pr.new w 59 (.slice none 0 0) (.slice none 0 0)).grown hg (by simp))
      have r0 := HP.out.c0
      have r1 := HP.out.c1
      have r2 := HP.out.f 0
      have r3 := HP.out.f 1
      clear hg
      go_wp2_with fail
      have T1 := (HP.out.set0 (.slice none 0 0)).set1 (.slice none 0 0)
      have q0 := T1.c0
      have q1 := T1.c1
      refine bodyPost_ret (v := .tuple #[.agg #[.slice none 0 0, .slice none 0 0], .bool false]) (by simp [results, Tryz.results31, go_sem, q0, q1]) rfl ?_
      exact .inl ⟨HV.out, rfl, gr_ownF HG.out ((gr_set w1 w.heap.size 0 (.slice none 0 0)).trans (gr_set _ w.heap.size 1 (.slice none 0 0))) (fun k hk => by cases hk; exact Nat.le_refl _)⟩
    | some t =>
      have hv : isArr s d = true := by unfold isArr; rw [hdn, hr]; simp; omega
      have HR := Lib.hid hr
      have HV := Lib.hid hv
      have HSH := Lib.hid (lv_short (readN_short hr h.2.2))
      clear h hv hr hdn
      have HFO := Lib.hid (fun u => fod_any d u (by omega))
      go_enter Tryz.func31, Tryz.ntmps31
      go_wp2_with fail
      refine (HC.out _).mono ?_
      intro e w1 hp
      unfold NestPost at hp
      rw [HR.out] at hp
      obtain ⟨v, rfl, hg, ha⟩ := hp
      have HG := Lib.hid ((World.grownBy_alloc w (.cells #[.slice none 0 0, .slice none 0 0] 59) none).trans hg)
      have HP := Lib.hid ((Pr.new w 59 (.slice none 0 0) (.slice none 0 0)).grown hg (by simp))
      have HA := Lib.hid ha
      clear hg ha
      go_wp2_with fail
      refine (HFO.out _).mono ?_
      rintro e w2 ⟨gR, rfl, hg2, _, hr2⟩
      have hfl := flat_start hg2.size hr2
      have hgu : w1.grownBy (w2.alloc (.cells #[.slice none 0 0, .slice (some ⟨gR, 0, none⟩) d d] 82)) none := hg2.trans (World.grownBy_alloc _ _ _)
      have HGU := Lib.hid hgu
      have HFL := Lib.hid hfl
      clear hfl hgu hg2 hr2
      go_wp2_with fail
      have hgu := HGU.out
      have hfl := HFL.out
      generalize w2.alloc (.cells #[.slice none 0 0, .slice (some ⟨gR, 0, none⟩) d d] 82) = u0 at hgu hfl ⊢
      have hrep : RepI u0 (fun b => b < w1.heap.size) d t v := RepI.keep (fun b _ hb => hgu.block b hb (by simp)) (fun b _ hb => hb) d t v HA.out
      have hlay := lay_any d t w2.heap.size w1.heap.size 0 (fun b => b < w1.heap.size) v (.slice none 0 0) (List.replicate d []) [] u0 hfl hrep (fun b hb => hb) (by simp) (by omega) HSH.out.1 HSH.out.2
      refine hlay.mono ?_
      rintro e w3 ⟨rfl, hb3, d3, hf3⟩
      have e1 : behind 0 (List.replicate d []) (lv d [t]) = lv d [t] := by rw [behind, List.take_zero, List.nil_append, List.drop_zero, lv_zero_add]
      rw [e1, List.nil_append] at hf3
      have hsh := HSH.out
      rw [e1, List.nil_append] at hsh
      have HG3 := Lib.hid (HG.out.trans (gr_below hgu hb3))
      have HP3 := Lib.hid (HP.out.grown (gr_below hgu hb3) (by simp))
      obtain ⟨g, c, hp3, hl3, _, _⟩ := hf3
      obtain ⟨⟨A8, c8, rfl, hi8, hd8, hn8⟩, hrw8, hcl8⟩ := hl3.reads
      have hlv := lv_len d [t]
      have HLY := Lib.hid (layout_any (some ⟨g, 0, none⟩) A8 c c8 (lv d [t]) (dat d [t]) w3 hrw8 hi8 (by rw [hlv]; omega) (fun M hM => by
        obtain ⟨i, hi⟩ := List.getElem?_of_mem hM
        have := hsh.1 i M hi; omega) (by have := hsh.2; omega) hd8 hn8 hcl8)
      have c0 := hp3.c0
      have c1 := hp3.c1
      obtain ⟨k, hk⟩ : ∃ k, (dat d [t]).length = k := ⟨_, rfl⟩
      rw [hk] at c0 HLY
      rw [hlv] at c1 HLY
      clear hgu hfl hrep hlay hb3 e1 hsh hp3 hl3 hi8 hd8 hn8 hrw8 hcl8
      go_wp2_with fail
      refine HLY.out.mono ?_
      rintro e w4 ⟨u, rfl, hg4, ho4⟩
      have HG4 := Lib.hid (HG3.out.trans hg4)
      have HO4 := Lib.hid ho4
      have HS3 := Lib.hid HG3.out.size
      have hp4 := HP3.out.grown hg4 (by simp)
      obtain ⟨A9, c9, d9, vs9, rfl, _, how9, hfm⟩ := id ho4
      obtain ⟨v9, hv9, B9, e9, hve, _⟩ := hfm.1 _ (dat d [t]) (Nat.lt_succ_self _) (by simp)
      have hd9 : ∃ m9, d9 = .slice B9 m9 e9 := by
        have hl9 : vs9.length = (lv d [t]).length := by
          have := how9.1
          omega
        rw [← hl9, List.getElem?_concat_length, Option.some.injEq] at hv9
        exact ⟨_, hv9.trans hve⟩
      obtain ⟨m9, rfl⟩ := hd9
      rw [hlv] at ho4 ⊢
      have HO5 := Lib.hid ho4
      have HP4 := Lib.hid hp4
      have r0 := hp4.c0
      have r1 := hp4.c1
      have r2 := hp4.f 0
      have r3 := hp4.f 1
      clear hg4 ho4 hp4 hfm hv9 hve how9 hlv HO4
      go_wp2_with fail
      have T1 := (HP4.out.set0 (.slice A9 d c9)).set1 (.slice B9 m9 e9)
      have q0 := T1.c0
      have q1 := T1.c1
      have hs1 := (gr_set w4 w.heap.size 0 (.slice A9 d c9)).trans (gr_set (w4.setCell ⟨w.heap.size, 0, none⟩ (.slice A9 d c9)) w.heap.size 1 (.slice B9 m9 e9))
      refine bodyPost_ret (v := .tuple #[.agg #[.slice A9 d c9, .slice B9 m9 e9], .bool true]) (by simp [results, Tryz.results31, go_sem, q0, q1]) rfl ?_
      clear q0 q1 r0 r1 r2 r3 T1
      have hfin := (HO5.out.box HP4.out hs1).low HS3.out
      have hgf := gr_ownF HG4.out hs1 (fun k hk => by cases hk; exact Nat.le_refl _)
      exact .inr ⟨HV.out, t, _, rfl, rfl, hgf, hfin⟩
  · have h' : n < 0 ∨ 3 < n ∨ 400 < s.size := by omega
    have hv : isArr s n = false := by unfold isArr; rw [decide_eq_false h]; rfl
    have HC := Lib.hid (fun u => nest_out n s u h')
    have HV := Lib.hid hv
    clear h h' hv
    go_enter Tryz.func31, Tryz.ntmps31
    go_wp2_with fail
    refine (HC.out _).mono ?_
    rintro e w1 ⟨rfl, hg⟩
    have HG := Lib.hid ((World.grownBy_alloc w (.cells #[.slice none 0 0, .slice none 0 0] 59) none).trans hg)
    have HP := Lib.hid ((Pr.new w 59 (.slice none 0 0) (.slice none 0 0)).grown hg (by simp))
    have r0 := HP.out.c0
    have r1 := HP.out.c1
    have r2 := HP.out.f 0
    have r3 := HP.out.f 1
    clear hg
    go_wp2_with fail
    have T1 := (HP.out.set0 (.slice none 0 0)).set1 (.slice none 0 0)
    have q0 := T1.c0
    have q1 := T1.c1
    refine bodyPost_ret (v := .tuple #[.agg #[.slice none 0 0, .slice none 0 0], .bool false]) (by simp [results, Tryz.results31, go_sem, q0, q1]) rfl ?_
    exact .inl ⟨HV.out, rfl, gr_ownF HG.out ((gr_set w1 w.heap.size 0 (.slice none 0 0)).trans (gr_set _ w.heap.size 1 (.slice none 0 0))) (fun k hk => by cases hk; exact Nat.le_refl _)⟩
end

/- OwnZ -/
section
open Go.RowKit

theorem OwnLyt.grown {w w' : World} {base : Nat} {u : Value} {LL : List (List Int)} {D : List Int} (h : OwnLyt w base u LL D) (hg : w.grownBy w' none) : OwnLyt w' base u LL D := by
  obtain ⟨A, c, d, vs, rfl, hc, ho, hf⟩ := h
  exact ⟨A, c, d, vs, rfl, hc, own_keep ho (fun g hb => hg.block g (ho.lt g hb).2 (by simp)), hf.grown hg⟩
theorem OwnLyt.zero (w : World) (base : Nat) : OwnLyt w base (.agg #[.slice none 0 0, .slice none 0 0]) [] [] := by
  refine ⟨none, 0, .slice none 0 0, [], rfl, Nat.le_refl _, World.ownsRow_nil _ _ _ _, fun i L hi hL => ?_, fun i i' v u L L' g hi hi' hne => ?_⟩
  · have h0 : i = 0 := by simpa using hi
    subst h0
    simp at hL
    subst hL
    exact ⟨_, rfl, none, 0, rfl, Nat.le_refl _, fun h => by simp at h⟩
  · simp at hi hi'
    omega
end

/- ShL -/
section
open Go.RowKit Go.Shelf

abbrev TSh : TypeId := 67
/-- A block that holds an array of three ints. -/
def A3 (w : World) (g : Nat) (a b c : Int) : Prop := w.heap[g]? = some (.cells #[.int .i64 a, .int .i64 b, .int .i64 c] TSh (0, 0))
section
variable {w w' : World} {g : Nat} {a b c : Int}
theorem A3.lt (h : A3 w g a b c) : g < w.heap.size := (Array.getElem?_eq_some_iff.1 h).1
theorem A3.c0 (h : A3 w g a b c) : w.cell? ⟨g, 0, none⟩ = some (.int .i64 a) := cell_of_row w g 0 _ _ (0, 0) h
theorem A3.c1 (h : A3 w g a b c) : w.cell? ⟨g, 1, none⟩ = some (.int .i64 b) := cell_of_row w g 1 _ _ (0, 0) h
theorem A3.c2 (h : A3 w g a b c) : w.cell? ⟨g, 2, none⟩ = some (.int .i64 c) := cell_of_row w g 2 _ _ (0, 0) h
theorem A3.f (h : A3 w g a b c) (i : Nat) : w.frozen? ⟨g, i, none⟩ = false := by
  unfold A3 at h
  simp [World.frozen?, h]
theorem A3.grown {row : Option Nat} (h : A3 w g a b c) (hg : w.grownBy w' row) (hne : some g ≠ row) : A3 w' g a b c := (hg.block g h.lt hne).trans h
theorem A3.alloc (h : A3 w g a b c) (o : Obj) : A3 (w.alloc o) g a b c := (Below.heap_alloc w o g h.lt).trans h
theorem A3.set0 (h : A3 w g a b c) (x : Int) : A3 (w.setCell ⟨g, 0, none⟩ (.int .i64 x)) g x b c := by
  unfold A3 at h ⊢
  simp [World.setCell, Array.getElem?_modify, h]
theorem A3.set1 (h : A3 w g a b c) (x : Int) : A3 (w.setCell ⟨g, 1, none⟩ (.int .i64 x)) g a x c := by
  unfold A3 at h ⊢
  simp [World.setCell, Array.getElem?_modify, h]
theorem A3.set2 (h : A3 w g a b c) (x : Int) : A3 (w.setCell ⟨g, 2, none⟩ (.int .i64 x)) g a b x := by
  unfold A3 at h ⊢
  simp [World.setCell, Array.getElem?_modify, h]
theorem A3.far (h : A3 w g a b c) {k i : Nat} (hk : g ≠ k) (u : Value) : A3 (w.setCell ⟨k, i, none⟩ u) g a b c := (Below.heap_setCell _ _ _ _ hk).trans h
theorem A3.new (w : World) : A3 (w.alloc (.cells #[.int .i64 0, .int .i64 0, .int .i64 0] TSh)) w.heap.size 0 0 0 := heap_alloc_new _ _
end
/-- A block that holds a padded list. -/
def AP (w : World) (g : Nat) (zs : List Int) : Prop := ∃ a b c, pad3 zs = [a, b, c] ∧ A3 w g a b c
theorem AP.cellj {w : World} {g : Nat} {zs : List Int} (h : AP w g zs) (hl : zs.length < 3) : ∃ x, w.cell? ⟨g, zs.length, none⟩ = some (.int .i64 x) := by
  obtain ⟨a, b, c, _, h⟩ := h
  obtain ⟨n, hn⟩ : ∃ n, zs.length = n := ⟨_, rfl⟩
  rw [hn] at hl ⊢
  match n, hl with
  | 0, _ => exact ⟨a, h.c0⟩
  | 1, _ => exact ⟨b, h.c1⟩
  | 2, _ => exact ⟨c, h.c2⟩
theorem AP.setj {w : World} {g : Nat} {zs : List Int} (h : AP w g zs) (hl : zs.length < 3) (x : Int) : AP (w.setCell ⟨g, zs.length, none⟩ (.int .i64 x)) g (zs ++ [x]) := by
  obtain ⟨a, b, c, he, h⟩ := h
  have hp := pad3_set (z := x) hl
  rw [he] at hp
  obtain ⟨n, hn⟩ : ∃ n, zs.length = n := ⟨_, rfl⟩
  rw [hn] at hl hp ⊢
  match n, hl with
  | 0, _ => exact ⟨x, b, c, hp.symm, h.set0 x⟩
  | 1, _ => exact ⟨a, x, c, hp.symm, h.set1 x⟩
  | 2, _ => exact ⟨a, b, x, hp.symm, h.set2 x⟩
theorem AP.grown {w w' : World} {g : Nat} {zs : List Int} {row : Option Nat} (h : AP w g zs) (hg : w.grownBy w' row) (hne : some g ≠ row) : AP w' g zs := by
  obtain ⟨a, b, c, he, h⟩ := h
  exact ⟨a, b, c, he, h.grown hg hne⟩

/-- What a function of lengths gives that shapeBy is handed. -/
structure Chooses (gf : Nat) (f : List Int → Int) : Prop where
  enters : ∀ (args : Array Value) (w : World), (callFunc gf args).run Tryz.prog w = .ok (.enter gf args) w
  call : ∀ (A : Option Addr) (c : Nat) (L : List Int) (w : World), Ints w A L → 0 < L.length → L.length ≤ 1099511627776 → Calls Tryz.prog gf #[.slice A L.length c] w fun e w' => e = .returned (.int .i64 (f L)) ∧ w = w'
  none : f [] = 0

set_option maxRecDepth 100000 in
set_option maxHeartbeats 1000000 in
theorem shapeby_any (gf : Nat) (f : List Int → Int) (hf : Chooses gf f) (v : Value) (LL : List (List Int)) (D : List Int) (w : World) (h : Lyt w v LL D) (hl : LL.length ≤ 3) (hsz : ∀ M ∈ LL, M.length ≤ 1099511627776) :
    Calls Tryz.prog 52 #[.func (.func gf) #[] #[], v] w fun e w' => ∃ x y z, pad3 (LL.map f) = [x, y, z] ∧ e = .returned (.agg #[.int .i64 x, .int .i64 y, .int .i64 z]) ∧ w.grownBy w' none := by
  obtain ⟨A, c, B, d, rfl, _, _, hR, _⟩ := h
  have HR := Lib.hid hR
  have HF := Lib.hid hf
  have HSZ := Lib.hid hsz
  obtain ⟨n, hn⟩ : ∃ n, LL.length = n := ⟨_, rfl⟩
  obtain ⟨m, hm⟩ : ∃ m, D.length = m := ⟨_, rfl⟩
  have HN := Lib.hid hn
  rw [hn] at hl ⊢
  rw [hm]
  clear hR hf hsz hn hm
  have HP := Lib.hid ((Pr.new w 59 (.slice A n c) (.slice B m d)).alloc (.cells #[.int .i64 0, .int .i64 0, .int .i64 0] TSh) |>.alloc (.cells #[.int .i64 0, .int .i64 0, .int .i64 0] TSh))
  have HA1 := Lib.hid ((A3.new (w.alloc (.cells #[.slice A n c, .slice B m d] 59))).alloc (.cells #[.int .i64 0, .int .i64 0, .int .i64 0] TSh))
  have HA2 := Lib.hid (A3.new ((w.alloc (.cells #[.slice A n c, .slice B m d] 59)).alloc (.cells #[.int .i64 0, .int .i64 0, .int .i64 0] TSh)))
  have HG := Lib.hid ((World.grownBy_alloc w (.cells #[.slice A n c, .slice B m d] 59) none).trans ((World.grownBy_alloc _ (.cells #[.int .i64 0, .int .i64 0, .int .i64 0] TSh) none).trans (World.grownBy_alloc _ (.cells #[.int .i64 0, .int .i64 0, .int .i64 0] TSh) none)))
  go_enter Tryz.func52, Tryz.ntmps52
  have p0 := HP.out.c0
  go_wp2_with fail
  generalize ((w.alloc (.cells #[.slice A n c, .slice B m d] 59)).alloc (.cells #[.int .i64 0, .int .i64 0, .int .i64 0] TSh)).alloc (.cells #[.int .i64 0, .int .i64 0, .int .i64 0] TSh) = w0 at HP HA1 HA2 HG p0 ⊢
  have HSZ2 : w.heap.size + 3 ≤ w0.heap.size := by have := HA2.out.lt; simp at this; omega
  have hsz0 : (w.alloc (.cells #[.slice A n c, .slice B m d] 59)).heap.size = w.heap.size + 1 := by simp
  go_loopw [6, 7, 11] (fun _ _ i wr => ∃ (j : Nat), j ≤ n ∧ i = .int .i64 j ∧ Hid (AP wr (w.heap.size + 1 + 1) ((LL.map f).take j)) ∧ Hid (A3 wr (w.heap.size + 1) 0 0 0) ∧ Hid (w.grownBy wr none)) (fun _ _ i _ => n - (intOf i).toNat)
  case atStart => exact ⟨0, Nat.zero_le _, rfl, Lib.hid ⟨0, 0, 0, rfl, by have := HA2.out; simpa using this⟩, Lib.hid (by have := HA1.out; simpa using this), HG⟩
  case round =>
    obtain ⟨j, hj, rfl, ha, hb, hgr⟩ := hrel
    by_cases hlt : j < n
    · obtain ⟨L, hL⟩ : ∃ L, LL[j]? = some L := ⟨_, List.getElem?_eq_getElem (by have := HN.out; omega)⟩
      obtain ⟨b, off, rfl, _, hc⟩ := (HR.out.grown hgr.out) (by have := HN.out; omega)
      obtain ⟨Bj, cj, hcj, hlc, hij⟩ := hc j L hL
      have hlen := HSZ.out L (List.mem_of_getElem? hL)
      have htl : ((LL.map f).take j).length = j := by have := HN.out; simp; omega
      have hst : (LL.map f).take (j + 1) = (LL.map f).take j ++ [f L] := by rw [List.take_add_one, List.getElem?_map, hL]; rfl
      have HST := Lib.hid hst
      have HTL := Lib.hid htl
      have HIJ := Lib.hid hij
      obtain ⟨k, hk⟩ : ∃ k, L.length = k := ⟨_, rfl⟩
      have HK := Lib.hid hk
      have hcx := ha.out.cellj (by omega)
      rw [htl] at hcx
      obtain ⟨x, hcx⟩ := hcx
      have hfx : wr.frozen? ⟨w.heap.size + 1 + 1, j, none⟩ = false := by
        obtain ⟨_, _, _, _, h⟩ := ha.out
        exact h.f j
      have HS := Lib.hid (ha.out.setj (by omega) (f L))
      rw [htl] at HS
      have HLE := Lib.hid hL
      rw [hk] at hcj hlen
      clear hL hc hij hst htl hk
      by_cases hk0 : k = 0
      · have hLn : L = [] := List.eq_nil_of_length_eq_zero (by rw [HK.out]; exact hk0)
        have HLN := Lib.hid hLn
        have hd : decide ((k : Int) > 0) = false := decide_eq_false (by omega)
        clear hLn
        go_wp2_with fail
        go_roundw
        case rel =>
          refine ⟨j + 1, by omega, by go_num, Lib.hid ?_, hb, hgr⟩
          rw [HST.out, HLN.out, HF.out.none]
          have h1 := ha.out
          have h2 : ∀ zs : List Int, zs.length < 3 → AP wr (w.heap.size + 1 + 1) zs → AP wr (w.heap.size + 1 + 1) (zs ++ [0]) := by
            rintro zs hz ⟨a, b, c, he, h⟩
            refine ⟨a, b, c, ?_, h⟩
            rw [← he]
            unfold pad3
            rw [List.append_assoc]
            congr 1
            obtain ⟨q, hq⟩ : ∃ q, 3 - zs.length = q + 1 := ⟨2 - zs.length, by omega⟩
            rw [hq, List.length_append, show 3 - (zs.length + [(0 : Int)].length) = q by simp; omega]
            rfl
          exact h2 _ (by rw [HTL.out]; omega) h1
        case measure => simp [intOf]; omega
      · have hd : decide ((k : Int) > 0) = true := decide_eq_true (by omega)
        have HCA := Lib.hid (HF.out.call Bj cj L wr HIJ.out (by have := HK.out; omega) (by have := HK.out; omega))
        have heg := HF.out.enters
        rw [HK.out] at HCA
        go_wp2_with fail
        refine HCA.out.mono ?_
        rintro e w1 ⟨rfl, rfl⟩
        go_wp2_with fail
        go_roundw
        case rel =>
          refine ⟨j + 1, by omega, by go_num, Lib.hid ?_, Lib.hid (hb.out.far (by omega) _), Lib.hid (gr_ownF hgr.out (gr_set wr (w.heap.size + 1 + 1) j _) (fun q e => by cases e; omega))⟩
          rw [HST.out]
          exact HS.out
        case measure => simp [intOf]; omega
    · have hjn : j = n := by omega
      have hta : (LL.map f).take j = LL.map f := List.take_of_length_le (by have := HN.out; simp; omega)
      have HTA := Lib.hid hta
      obtain ⟨x, y, z, he, ha2⟩ := ha.out
      have HE := Lib.hid he
      have q0 := ha2.c0
      have q1 := ha2.c1
      have q2 := ha2.c2
      have r0 := hb.out.c0
      have r1 := hb.out.c1
      have r2 := hb.out.c2
      have s0 := hb.out.f
      clear hjn hta he
      go_wp2_with fail
      have T1 := ((hb.out.set0 x).set1 y).set2 z
      have t0 := T1.c0
      have t1 := T1.c1
      have t2 := T1.c2
      refine bodyPost_ret (v := .agg #[.int .i64 x, .int .i64 y, .int .i64 z]) (by simp [results, Tryz.results52, go_sem, t0, t1, t2]) rfl ?_
      refine ⟨x, y, z, ?_, rfl, gr_ownF hgr.out ((gr_set wr (w.heap.size + 1) 0 _).trans ((gr_set _ (w.heap.size + 1) 1 _).trans (gr_set _ (w.heap.size + 1) 2 _))) (fun q e => by cases e; omega)⟩
      rw [← HTA.out]
      exact HE.out

theorem chooses_max : Chooses 53 maxI where
  enters := enters_of Tryz.func53 (by kernel_rfl) rfl
  call := fun A c L w h h0 hn => slmax_any A c L w h h0 hn
  none := rfl
/-- How longest and shortest end. -/
def LgP (f : List Int → Int) (LL : List (List Int)) (w : World) (e : Ending) (w' : World) : Prop :=
  ∃ x y z, pad3 (LL.map f) = [x, y, z] ∧ e = .returned (.agg #[.int .i64 x, .int .i64 y, .int .i64 z]) ∧ w.grownBy w' none

set_option maxRecDepth 100000 in
set_option maxHeartbeats 1000000 in
theorem longest_any (v : Value) (LL : List (List Int)) (D : List Int) (w : World) (h : Lyt w v LL D) (hl : LL.length ≤ 3) (hsz : ∀ M ∈ LL, M.length ≤ 1099511627776) :
    Calls Tryz.prog 34 #[v] w (LgP maxI LL w) := by
  have HC := Lib.hid (fun u (hg : w.grownBy u none) => shapeby_any _ maxI chooses_max v LL D u (h.grown hg) hl hsz)
  obtain ⟨A, c, B, d, rfl, _⟩ := h
  generalize LL.length = n at HC ⊢
  generalize D.length = m at HC ⊢
  clear hl hsz
  have hg0 := (World.grownBy_alloc w (.cells #[.slice A n c, .slice B m d] 59) none).trans (World.grownBy_alloc _ (.cells #[.int .i64 0, .int .i64 0, .int .i64 0] TSh) none)
  have HG0 := Lib.hid hg0
  have HP := Lib.hid ((Pr.new w 59 (.slice A n c) (.slice B m d)).alloc (.cells #[.int .i64 0, .int .i64 0, .int .i64 0] TSh))
  have HA := Lib.hid (A3.new (w.alloc (.cells #[.slice A n c, .slice B m d] 59)))
  have p0 := HP.out.c0
  have p1 := HP.out.c1
  clear hg0
  go_enter Tryz.func34, Tryz.ntmps34
  go_wp2_with fail
  refine (HC.out _ HG0.out).mono ?_
  rintro e w1 ⟨x, y, z, he, rfl, hg1⟩
  have HE := Lib.hid he
  have HG1 := Lib.hid (HG0.out.trans hg1)
  have HA1 := Lib.hid (HA.out.grown hg1 (by simp))
  have q0 := HA1.out.c0
  have q1 := HA1.out.c1
  have q2 := HA1.out.c2
  have q3 := HA1.out.f
  simp at q0 q1 q2 q3
  clear p0 p1 he hg1
  go_wp2_with fail
  have T1 := ((HA1.out.set0 x).set1 y).set2 z
  simp at T1
  have t0 := T1.c0
  have t1 := T1.c1
  have t2 := T1.c2
  refine bodyPost_ret (v := .agg #[.int .i64 x, .int .i64 y, .int .i64 z]) (by simp [results, Tryz.results34, go_sem, t0, t1, t2]) rfl ?_
  exact ⟨x, y, z, HE.out, rfl, gr_ownF HG1.out ((gr_set w1 (w.heap.size + 1) 0 _).trans ((gr_set _ (w.heap.size + 1) 1 _).trans (gr_set _ (w.heap.size + 1) 2 _))) (fun q e => by cases e; omega)⟩
end

end Go.Proofs.YtachjodnhgmoiaaGreatDoor
