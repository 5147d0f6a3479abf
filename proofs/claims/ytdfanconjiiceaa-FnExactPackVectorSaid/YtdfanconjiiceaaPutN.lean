/- What lay and layParts of the program do with a node that may have been read behind the rows that it is laid into: the levels and the numbers behind those that are there. -/
import Derived.Test.YtdfanconjiiceaaLayMem
import Derived.Test.YtdfanconjiiceaaPutB
import Derived.Test.YtdfanconjiiceaaNest
import Derived.Maps.AppendAt
import Derived.Deep.RegionLaw
import Derived.Deep.AppendLies
import Derived.Deep.CutRange
namespace Go.Proofs.Ytdfanconjiiceaa
open Go.RowKit



/-- The types of what is laid: nodes and their parts, neither ints nor levels nor the struct. -/
def Nt (t : TypeId) : Prop := t ≠ 3 ∧ t ≠ 23 ∧ t ≠ 70
/-- What lies below block B, and what is of another type, lies as it lay. -/
structure Bn (B : Nat) (w w' : World) : Prop where
  os : w'.os = w.os
  tape : w'.tape = w.tape
  output : w'.output = w.output
  size : w.heap.size ≤ w'.heap.size
  block : ∀ k, k < B → w'.heap[k]? = w.heap[k]?
  typed : ∀ (k : Nat) (cs : Array Value) (t : TypeId) (m : Nat × Nat), w.heap[k]? = some (.cells cs t m) → Nt t → w'.heap[k]? = w.heap[k]?
theorem Bn.refl (B : Nat) (w : World) : Bn B w w := ⟨rfl, rfl, rfl, Nat.le_refl _, fun _ _ => rfl, fun _ _ _ _ _ _ => rfl⟩
theorem Bn.trans {B : Nat} {w w1 w2 : World} (h : Bn B w w1) (h2 : Bn B w1 w2) : Bn B w w2 :=
  ⟨h2.os.trans h.os, h2.tape.trans h.tape, h2.output.trans h.output, Nat.le_trans h.size h2.size, fun k hk => (h2.block k hk).trans (h.block k hk), fun k cs t m hc ht => by
    have h1 := h.typed k cs t m hc ht
    exact (h2.typed k cs t m (h1.trans hc) ht).trans h1⟩
theorem Bn.below {B : Nat} {w w' : World} (h : Bn B w w') : Below B w w' := ⟨h.os, h.tape, h.output, h.size, h.block⟩
/-- What is written is one row or box of those types, or new. -/
theorem bn_of {B : Nat} {w w1 : World} {row : Option Nat} (hr : ∀ k, row = some k → B ≤ k ∧ ∃ (cs : Array Value) (t : TypeId) (m : Nat × Nat), w.heap[k]? = some (.cells cs t m) ∧ ¬ Nt t) (hb : B ≤ w.heap.size) (hg : w.grownBy w1 row) : Bn B w w1 :=
  ⟨hg.os, hg.tape, hg.output, hg.size, fun k hk => hg.block k (Nat.lt_of_lt_of_le hk hb) (fun e => by have := (hr k e.symm).1; omega), fun k cs t m hc ht => hg.block k (Array.getElem?_eq_some_iff.1 hc).1 (fun e => by
    obtain ⟨_, cs', t', m', h1, h2⟩ := hr k e.symm
    rw [hc] at h1
    cases h1
    exact h2 ht)⟩
theorem nt_int : ¬ Nt 3 := fun h => h.1 rfl
theorem nt_row : ¬ Nt 23 := fun h => h.2.1 rfl
theorem nt_box : ¬ Nt 70 := fun h => h.2.2 rfl
theorem bn_row {w w1 : World} {base n : Nat} {v : Value} {xs : List Value} {e : TypeId} (he : ¬ Nt e) (ho : w.ownsRow base e 1 v n xs) (hb : base ≤ w.heap.size) (hg : w.grownBy w1 v.ownBlock) : Bn base w w1 :=
  bn_of (fun k hk => by
    refine ⟨(ho.lt k hk).1, ?_⟩
    rcases ho.2 with ⟨rfl, _⟩ | ⟨b, cap, cur, rfl, _, hgg, _⟩
    · cases hk
    · simp only [Value.ownBlock, Option.some.injEq] at hk
      subst hk
      exact ⟨_, _, _, hgg, he⟩) hb hg
theorem bn_set {w : World} {base g i : Nat} {u : Value} {cs : Array Value} {t : TypeId} {m : Nat × Nat} (hc : w.heap[g]? = some (.cells cs t m)) (ht : ¬ Nt t) (hb : base ≤ w.heap.size) (h : base ≤ g) : Bn base w (w.setCell ⟨g, i, none⟩ u) :=
  bn_of (row := some g) (fun k hk => by cases hk; exact ⟨h, _, _, _, hc, ht⟩) hb (gr_set w g i u)
/-- Blocks that laying leaves alone. -/
def SOk (base : Nat) (S : Nat → Prop) (w : World) : Prop := ∀ b, S b → b < base ∨ ∃ (cs : Array Value) (t : TypeId) (m : Nat × Nat), w.heap[b]? = some (.cells cs t m) ∧ Nt t
theorem Bn.kept {base : Nat} {S : Nat → Prop} {w w' : World} (h : Bn base w w') (hS : SOk base S w) : ∀ b, S b → w'.heap[b]? = w.heap[b]? := fun b hb => by
  rcases hS b hb with h1 | ⟨cs, t, m, hc, ht⟩
  · exact h.block b h1
  · exact h.typed b cs t m hc ht
theorem SOk.keep {base : Nat} {S : Nat → Prop} {w w' : World} (hS : SOk base S w) (h : Bn base w w') : SOk base S w' := fun b hb => by
  rcases hS b hb with h1 | ⟨cs, t, m, hc, ht⟩
  · exact .inl h1
  · exact .inr ⟨cs, t, m, (h.typed b cs t m hc ht).trans hc, ht⟩

/-- The program's and the model's struct of levels and numbers. -/
def FlatN (w : World) (base gf : Nat) (d : Value) (LL : List (List Int)) (D : List Int) : Prop :=
  ∃ g c, Pr w gf 70 d (.slice (some ⟨g, 0, none⟩) LL.length c) ∧ LaidAt w base g c d LL D ∧ base ≤ w.heap.size ∧ base ≤ gf

/-- The first statement of layParts: a length more at a level. -/
def LenPostN (base gf k : Nat) (z : Int) (LL : List (List Int)) (D L : List Int) (d : Value) (w w' : World) : Prop := Bn base w w' ∧ FlatN w' base gf d (LL.set k (L ++ [z])) D

set_option maxHeartbeats 400000 in
theorem put_anyN (gf base : Nat) (z : Int) (d : Value) (LL : List (List Int)) (D : List Int) (w : World) (h : FlatN w base gf d LL D) (hl : D.length ≤ 1000000) :
    Calls Try.prog 77 #[.pointer (some ⟨gf, 0, none⟩), .int .i64 z] w fun e w' => e = .returned (.tuple #[]) ∧ Bn base w w' ∧ ∃ d', FlatN w' base gf d' LL (D ++ [z]) := by
  obtain ⟨i0, hi0, hz0, hz1, hz2⟩ := info_parts infoJ
  obtain ⟨g, c, hp, h, hb, hgf⟩ := h
  have HP := Lib.hid hp
  obtain ⟨hown, hnext⟩ := h.data (z := z)
  have HN := Lib.hid hnext
  have c0 := hp.c0
  have f0 := hp.f 0
  have HO := Lib.hid hown
  obtain ⟨A, k, e, rfl⟩ := own_form hown
  obtain rfl : k = D.length := own_len2 hown
  have HH := Lib.hid h
  obtain ⟨q, hq⟩ : ∃ q, D.length = q := ⟨_, rfl⟩
  have HQ := Lib.hid hq
  rw [hq] at c0 hl
  clear h hp hown hnext hq
  go_enter Try.func77, Try.ntmps77
  have own1 : (w.alloc (.cells #[.int .i64 z] 3)).ownsRow base 3 1 (.slice A q e) q (D.map (Value.int .i64)) := by
    have := HO.out.alloc (.cells #[.int .i64 z] 3)
    rwa [HQ.out] at this
  go_wp2_with (at_builtin; refine wpList_append_own_at _ rfl _ _ 23 rfl base 3 i0 (.int .i64 0) 1 8 Try.underlying23 hi0 hz0 hz1 hz2 rfl (by decide) _ _ _ rfl own1 ⟨w.heap.size, 0, none⟩ 1 1 [.int .i64 z] rfl rfl (cell_one_new _ _ _) ?c2 ?c3 ?c4 ?c5 ?_)
  case c2 => simp [Value.oneCell']
  case c3 => simp only [maxLen]; omega
  case c4 => omega
  case c5 => simp; omega
  intro v8 w8 hown8 hg8 _ hat8
  have hg9 : w.grownBy w8 (Value.slice A q e).ownBlock := (World.grownBy_alloc w (.cells #[.int .i64 z] 3) _).trans hg8
  have hat : ∀ b, v8.ownBlock = some b → (Value.slice A q e).ownBlock = some b ∨ w.heap.size ≤ b := by
    intro b hb
    rcases hat8 with h | h
    · left; rw [← h]; exact hb
    · right; rw [hb] at h; simp at h; omega
  have hnx := HN.out w8 v8 (by rw [HQ.out]; exact hg9) (by rw [HQ.out]; exact hown8) (by rw [HQ.out]; exact hat)
  have hown0 : w.ownsRow base 3 1 (.slice A q e) q (D.map (Value.int .i64)) := by have := HO.out; rwa [HQ.out] at this
  have P8 := (show Pr w gf 70 (.slice A q e) (.slice (some ⟨g, 0, none⟩) LL.length c) by have := HP.out; rwa [HQ.out] at this).row hown0 (by decide) hg9
  have e0 := P8.c0
  have e1 := P8.f 0
  obtain ⟨A8, m8, c8, rfl⟩ := own_form hown8
  have HNX := Lib.hid hnx
  have HP8 := Lib.hid P8
  have HB8 := Lib.hid (bn_row nt_int hown0 hb hg9)
  have HS8 := Lib.hid hg9.size
  clear hown8 hg8 hat8 hg9 hat hnx hown0 P8 own1 c0 f0
  go_wp2_with fail
  go_end0
  have hs9 := gr_set w8 gf 0 (.slice A8 m8 c8)
  exact ⟨rfl, HB8.out.trans (bn_set HP8.out nt_box (Nat.le_trans hb HS8.out) hgf), _, g, c, HP8.out.set0 _, HNX.out.other HP8.out (by decide) (by decide) hs9, Nat.le_trans hb (Nat.le_trans HS8.out hs9.size), hgf⟩

/-- The first statement's facts: the level's row, and what the store does. -/
theorem len_stepN {w : World} {base gf k : Nat} {z : Int} {d : Value} {LL : List (List Int)} {D L : List Int} (h : FlatN w base gf d LL D) (hL : LL[k]? = some L) :
    ∃ g c A e, Pr w gf 70 d (.slice (some ⟨g, 0, none⟩) LL.length c) ∧ k < LL.length ∧ w.cell? ⟨g, k, none⟩ = some (.slice A L.length e) ∧ w.frozen? ⟨g, k, none⟩ = false ∧ base ≤ w.heap.size ∧
      w.ownsRow base 3 1 (.slice A L.length e) L.length (L.map (Value.int .i64)) ∧
      ∀ (w1 : World) (gg cap : Nat), w.grownBy w1 (Value.slice A L.length e).ownBlock → w1.ownsRow base 3 1 (.slice (some ⟨gg, 0, none⟩) (L.length + 1) cap) (L.length + 1) (L.map (Value.int .i64) ++ [.int .i64 z]) → ((Value.slice A L.length e).ownBlock = some gg ∨ w.heap.size ≤ gg) →
        (∃ y, w1.cell? ⟨g, k, none⟩ = some y) ∧ w1.frozen? ⟨g, k, none⟩ = false ∧ w1.cell? ⟨gf, 1, none⟩ = some (.slice (some ⟨g, 0, none⟩) LL.length c) ∧
        Bn base w (w1.setCell ⟨g, k, none⟩ (.slice (some ⟨gg, 0, none⟩) (L.length + 1) cap)) ∧ FlatN (w1.setCell ⟨g, k, none⟩ (.slice (some ⟨gg, 0, none⟩) (L.length + 1) cap)) base gf d (LL.set k (L ++ [z])) D := by
  obtain ⟨g, c, hp, h, hb, hgf⟩ := h
  obtain ⟨v, hc, hf, ho, hnx⟩ := h.level (z := z) hL
  have hk : k < LL.length := (List.getElem?_eq_some_iff.1 hL).1
  obtain ⟨A, m, e, rfl⟩ := own_form ho
  obtain rfl : m = L.length := own_len2 ho
  refine ⟨g, c, A, e, hp, hk, hc, hf, hb, ho, fun w1 gg cap hg hw hat => ?_⟩
  obtain ⟨hy, hf1, hl⟩ := hnx w1 (.slice (some ⟨gg, 0, none⟩) (L.length + 1) cap) hg hw (fun b hb => by cases hb; exact hat)
  have hp1 := hp.row ho (by decide) hg
  obtain ⟨vs, hov, _⟩ := h
  have hgb := (hov.lt g rfl).1
  have hs := gr_set w1 g k (.slice (some ⟨gg, 0, none⟩) (L.length + 1) cap)
  have hne : some gf ≠ some g := fun e2 => by
    cases e2
    obtain ⟨cs, hcs⟩ := own_cells hov
    unfold Pr at hp
    rw [hp] at hcs
    cases hcs
  have hg1 : ∃ cs, w1.heap[g]? = some (.cells cs 23 (0, 0)) := by
    obtain ⟨cs, hcs⟩ := own_cells hov
    exact ⟨cs, (hg.block g (hov.lt g rfl).2 (fun e2 => absurd (own_typ hov ho rfl e2.symm) (by decide))).trans hcs⟩
  obtain ⟨cs1, hg1⟩ := hg1
  refine ⟨hy, hf1, hp1.c1, (bn_row nt_int ho hb hg).trans (bn_set hg1 nt_row (Nat.le_trans hb hg.size) hgb), g, c, ?_, hl, Nat.le_trans hb (Nat.le_trans hg.size hs.size), hgf⟩
  have := hp1.grown hs hne
  rwa [List.length_set]

theorem prow1N {w : World} {base e : Nat} {A : Option Addr} {k c : Nat} {xs : List Value} (h : w.ownsRow base e 1 (.slice A k c) xs.length xs) :
    k = xs.length ∧ (0 < k → ∃ g, A = some ⟨g, 0, none⟩ ∧ ∀ (j : Nat) (x : Value), xs[j]? = some x → w.cell? ⟨g, j, none⟩ = some x) := by
  rcases h.2 with ⟨hv, hn⟩ | ⟨g, cap, cur, hv, _, hg, hnc, _, hcs, htake⟩
  · cases hv
    exact ⟨by omega, fun h => by omega⟩
  · cases hv
    refine ⟨rfl, fun _ => ⟨g, rfl, fun j x hj => ?_⟩⟩
    have hjl := (List.getElem?_eq_some_iff.1 hj).1
    rw [cell_of_row w g j _ _ (0, 0) hg]
    have : (cur.toList.take (xs.length * 1))[j]? = some x := by rw [htake, hj]
    rw [List.getElem?_take, if_pos (by omega)] at this
    simpa using this
theorem RepI.belowN {w w' : World} {S : Nat → Prop} {base d : Nat} {t : T d} {v : Value} (h : RepI w S d t v) (hS : SOk base S w) (hb : Bn base w w') : RepI w' S d t v :=
  RepI.keep (fun b hs _ => hb.kept hS b hs) (fun _ hs _ => hs) d t v h

/-- What lay does with an array of a depth. -/
def LayPN (d : Nat) : Prop := ∀ (t : T d) (gf base k : Nat) (S : Nat → Prop) (v d0 : Value) (LL : List (List Int)) (D : List Int) (w : World), FlatN w base gf d0 LL D → RepI w S d t v → SOk base S w → LL.length = k + d → k + d ≤ 10 → Short (behind k LL (lv d [t])) → (D ++ dat d [t]).length ≤ 1000000 →
  Calls Try.prog 41 #[.pointer (some ⟨gf, 0, none⟩), v, .int .i64 k] w fun e w' => e = .returned (.tuple #[]) ∧ Bn base w w' ∧ ∃ d', FlatN w' base gf d' (behind k LL (lv d [t])) (D ++ dat d [t])


set_option maxRecDepth 100000 in
set_option maxHeartbeats 4000000 in
theorem layq0N (ih : LayPN 0) (ts : List (T 0)) (gf base k : Nat) (S : Nat → Prop) (A : Option Addr) (m e : Nat) (xs : List Value) (d : Value) (LL : List (List Int)) (D : List Int) (w : World) (h : FlatN w base gf d LL D)
    (hx : w.ownsRow 0 (elT 0) 1 (.slice A m e) xs.length xs) (hxs : ∀ g, (Value.slice A m e).ownBlock = some g → S g) (ha : All2 (Nd w S 0) ts xs) (hS : SOk base S w) (hlen : LL.length = k + (0 + 1)) (hk10 : k + (0 + 1) ≤ 10)
    (hsh : Short (behind k LL (lv (0 + 1) [(show T (0 + 1) from ts)]))) (hdl : (D ++ dat (0 + 1) [(show T (0 + 1) from ts)]).length ≤ 1000000) (hts : ts.length ≤ 1000000) :
    Calls Try.prog 78 #[.pointer (some ⟨gf, 0, none⟩), .slice A m e, .int .i64 k] w fun e w' => e = .returned (.tuple #[]) ∧ Bn base w w' ∧ ∃ d', FlatN w' base gf d' (behind k LL (lv (0 + 1) [(show T (0 + 1) from ts)])) (D ++ dat (0 + 1) [(show T (0 + 1) from ts)]) := by
  obtain ⟨L, hL⟩ : ∃ L, LL[k]? = some L := ⟨_, List.getElem?_eq_getElem (by omega)⟩
  have hl : L.length ≤ 1000000 := (hsh.of_behind hlen (lv_len _ _)).level hL
  have hmt : ts.length = m := by rw [(prow1N hx).1]; exact All2.length _ _ ha
  have hn1 : (LL.set k (L ++ [(m : Int)])).length = k + 1 + 0 := by rw [List.length_set]; omega
  have hbe : behind k LL (lv (0 + 1) [(show T (0 + 1) from ts)]) = behind (k + 1) (LL.set k (L ++ [(m : Int)])) (lv 0 ts) := by
    rw [← hmt]; exact behind_node _ hlen hL
  have hde : dat (0 + 1) [(show T (0 + 1) from ts)] = dat 0 ts := dat_one 0 _
  rw [hbe] at hsh
  rw [hde] at hdl
  rw [hbe, hde]
  have HSH := Lib.hid hsh
  have HDL := Lib.hid hdl
  have HN1 := Lib.hid hn1
  have HMT := Lib.hid hmt
  have HX := Lib.hid (fun (w' : World) (hb : Bn base w w') => own_keep hx (fun g hg => hb.kept hS g (hxs g hg)))
  have HA := Lib.hid ha
  have HSS := Lib.hid hS
  have HI := Lib.hid ih
  have HXL := Lib.hid (All2.length _ _ ha)
  have hm6 : m ≤ 1000000 := by omega
  clear hbe hde hsh hdl hn1 hmt hx hxs ha hS ih hlen
  obtain ⟨i0, hi0, hz0, hz1, hz2⟩ := info_parts infoJ
  obtain ⟨g, c, A2, e2, hp, hk, hc, hf, hb, ho, hnx⟩ := len_stepN (z := (m : Int)) h hL
  have c1 := hp.c1
  have HNX := Lib.hid hnx
  have HO := Lib.hid ho
  obtain ⟨q, hq⟩ : ∃ q, L.length = q := ⟨_, rfl⟩
  obtain ⟨n, hn⟩ : ∃ n, LL.length = n := ⟨_, rfl⟩
  rw [hn] at c1 hk
  rw [hq] at hc hl
  rw [hq, hn] at HNX
  rw [hq] at HO
  have own7 := (HO.out.alloc (.cells #[.int .i64 (m : Int)] 3)).kept (gr_drew _ none) (by cases hv : (Value.slice A2 q e2).ownBlock <;> simp)
  have hc2 := (World.grownBy_alloc w (.cells #[.int .i64 (m : Int)] 3) none).cell hc (by simp)
  have hc3 : ((w.alloc (.cells #[.int .i64 (m : Int)] 3)).drew).cell? ⟨g, k, none⟩ = _ := hc2
  have c2 := (World.grownBy_alloc w (.cells #[.int .i64 (m : Int)] 3) none).cell c1 (by simp)
  have c3 : ((w.alloc (.cells #[.int .i64 (m : Int)] 3)).drew).cell? ⟨gf, 1, none⟩ = _ := c2
  clear hL h hp hnx ho hq hn
  go_enter Try.func78, Try.ntmps78
  go_wp2_with fail
  go_cut [] from 8 to 24 (fun wx => Hid (Bn base w wx) ∧ Hid (FlatN wx base gf d (LL.set k (L ++ [(m : Int)])) D))
  case first =>
   go_region_law (first
    | (refine step_append_lies _ (by rfl) _ _ _ (by rfl) base 3 i0 _ 1 8 Try.underlying23 hi0 hz0 hz1 hz2 rfl (by omega) (.slice A2 q e2) q (L.map (Value.int .i64)) (by rfl) own7 ⟨w.heap.size, 0, none⟩ 1 1 [.int .i64 (m : Int)] (by rfl) (by rfl) (World.news_of_block (cs := #[.int .i64 (m : Int)]) (t := 3) (fr := (0, 0)) (heap_alloc_new _ _)) (by simp [Value.oneCell']) (by omega) (by simp only [maxLen]; omega) (by omega) (by simp; omega) (w.heap.size + 1) (by simp) ?_
       intro gg cap w8 hown8 hg8 hat8 _
       obtain ⟨⟨y8, hy8⟩, hf8, hc8, hb8, hF8⟩ := HNX.out w8 gg cap (((World.grownBy_alloc w (.cells #[.int .i64 (m : Int)] 3) _).trans (gr_drew _ _)).trans hg8) hown8 (by rcases hat8 with h | h; exact .inl h; right; omega)
       have HB8 := Lib.hid hb8
       have HF8 := Lib.hid hF8
       clear hown8 hg8 hat8 hb8 hF8))
   all_goals
     go_wp2_with fail
     go_meet
     exact ⟨HB8, HF8⟩
  case rest =>
   obtain ⟨HB1, HF1⟩ := hcut
   go_wp2_with fail
   have wk : IntKind.i64.wrap ((k : Int) + 1) = (k : Int) + 1 := IntWalk.i64_in _ (by omega)
   go_loopw [27] (fun i wr => ∃ (j : Nat), j ≤ m ∧ i = .int .i64 j ∧ Hid (Bn base w wr) ∧ Hid (∃ d', FlatN wr base gf d' (behind (k + 1) (LL.set k (L ++ [(m : Int)])) (lv 0 (ts.take j))) (D ++ dat 0 (ts.take j)))) (fun i _ => m - (intOf i).toNat)
   case atStart => exact ⟨0, Nat.zero_le _, rfl, HB1, Lib.hid ⟨d, by rw [List.take_zero, behind_nil HN1.out, dat_nil, List.append_nil]; exact HF1.out⟩⟩
   case round =>
    obtain ⟨j, hj, rfl, hbl, hfe⟩ := hrel
    obtain ⟨d', hfl⟩ := hfe.out
    have HFL := Lib.hid hfl
    clear hfl
    by_cases hlt : j < m
    · obtain ⟨t, x, ht, hx, hnd⟩ := All2.nth (j := j) HA.out (by have := HXL.out; have := HMT.out; omega)
      obtain ⟨g3, rfl, hcells⟩ := (prow1N (HX.out wr hbl.out)).2 (by omega)
      have hcell := hcells j x hx
      have HT := Lib.hid ht
      obtain rfl : x = .int .i64 ((show Nat from t : Nat) : Int) := hnd
      have HC := Lib.hid (HI.out t gf base (k + 1) S (.iface 110 (.int .i64 ((show Nat from t : Nat) : Int))) d' _ _ wr HFL.out rfl (HSS.out.keep hbl.out) (behind_len HN1.out (lv_len 0 _)) (by omega)
        (by rw [behind_step HN1.out ht]; exact HSH.out.part HN1.out) (by rw [List.append_assoc, ← dat_step ht, List.length_append]; have := dat_part (d := 0) (ts := ts) (j + 1); have := HDL.out; rw [List.length_append] at this; omega))
      rw [behind_step HN1.out ht, List.append_assoc, ← dat_step ht] at HC
      obtain ⟨z, hz⟩ : ∃ z : Int, ((show Nat from t : Nat) : Int) = z := ⟨_, rfl⟩
      rw [hz] at hcell HC
      rw [show ((k + 1 : Nat) : Int) = (k : Int) + 1 from by omega] at HC
      clear ht hx hcells hz
      go_wp2_with fail
      refine HC.out.mono ?_
      rintro e w5 ⟨rfl, hb5, d5, hf5⟩
      have HB5 := Lib.hid (hbl.out.trans hb5)
      have HF5 := Lib.hid hf5
      clear hb5 hf5
      go_wp2_with fail
      go_roundw
      case rel => exact ⟨j + 1, by omega, by go_num, HB5, Lib.hid ⟨d5, HF5.out⟩⟩
      case measure => simp [intOf]; omega
    · have hjn : j = m := by omega
      have HJ := Lib.hid hjn
      clear hjn
      go_wp2_with fail
      go_end0
      have e : ts.take j = ts := List.take_of_length_le (by have := HJ.out; have := HMT.out; omega)
      have h2 := HFL.out
      rw [e] at h2
      exact ⟨rfl, hbl.out, d', h2⟩

end Go.Proofs.Ytdfanconjiiceaa
