/- 8 texts in one: Take PartF Part Part0 PartT TakeP Arrs Inner. -/
import Derived.Test.YtbideeajdhejoaaAside
import Derived.Test.YtbideeajdhejoaaOwnI
import Derived.Test.YtbideeajdhejoaaFam
import Derived.Test.YtbideeajdhejoaaWrong
import Derived.Maps.AppendAt
import Derived.BigRegion
import Derived.Test.YtbideeajdhejoaaFold
import Derived.Test.YtbideeajdhejoaaClone2
import Derived.Deep.CutRange
import Derived.Deep.DeepCutAuto
import Derived.Deep.RegionLaw
import Derived.Test.YtbideeajdhejoaaTolQ
namespace Go.Proofs.Ytbideeajdhejoaa
/- Take -/
section
open Go.RowKit

/-- How take ends: what it gives lies where the numbers lay; the struct holds the rest. -/
def TakePost (gf z m c : Nat) (A : Option Addr) (y : Value) (w : World) (e : Ending) (w' : World) : Prop :=
  e = .returned (.agg #[.slice A z z]) ∧ w.grownBy w' (some gf) ∧ ∃ A' c', Pr w' gf 85 (.slice A' (m - z) c') y ∧ ((∃ b off, A = some ⟨b, off, none⟩ ∧ A' = some ⟨b, off + z, none⟩ ∧ c' = c - z) ∨ (A' = A ∧ c' = 0 ∧ m - z = 0))

theorem gr_take {w : World} {gf : Nat} {x y u : Value} {o : Obj} {t : TypeId} (h : Pr w gf t x y) : w.grownBy ((w.setCell ⟨gf, 0, none⟩ u).alloc o) (some gf) ∧ Pr ((w.setCell ⟨gf, 0, none⟩ u).alloc o) gf t u y :=
  ⟨(gr_set w gf 0 u).trans (World.grownBy_alloc _ _ _), (h.set0 u).alloc o⟩

set_option maxRecDepth 100000 in
set_option maxHeartbeats 1000000 in
theorem take_some (gf b off z m c : Nat) (y : Value) (w : World) (h : Pr w gf 85 (.slice (some ⟨b, off, none⟩) m c) y) (hz : z ≤ m) (hm : m ≤ c) :
    Calls Try.prog 136 #[.pointer (some ⟨gf, 0, none⟩), .int .i64 (z : Int)] w (TakePost gf z m c (some ⟨b, off, none⟩) y w) := by
  have HP := Lib.hid h
  have c0 := (HP.out.alloc (.cells #[.slice none 0 0] 83)).c0
  have f0 := (HP.out.alloc (.cells #[.slice none 0 0] 83)).f 0
  have hlt := h.lt
  have hzc : z ≤ c := by omega
  clear h
  rcases Nat.lt_or_ge z c with hc | hc
  · have hne : ¬ z = c := by omega
    go_enter Try.func136, Try.ntmps136
    go_wp2_with fail
    all_goals
      refine bodyPost_ret (v := .agg #[.slice (some ⟨b, off, none⟩) z z]) (by simp [results, Try.results136, go_sem]) rfl ?_
      obtain ⟨g1, g2⟩ := gr_take (u := .slice (some ⟨b, off + z, none⟩) (m - z) (c - z)) (o := .cells #[.slice (some ⟨b, off, none⟩) z z] 83) HP.out
      exact ⟨rfl, g1, _, _, g2, .inl ⟨b, off, rfl, rfl, rfl⟩⟩
  · obtain rfl : z = c := by omega
    obtain rfl : m = z := by omega
    go_enter Try.func136, Try.ntmps136
    go_wp2_with fail
    all_goals
      refine bodyPost_ret (v := .agg #[.slice (some ⟨b, off, none⟩) m m]) (by simp [results, Try.results136, go_sem]) rfl ?_
      obtain ⟨g1, g2⟩ := gr_take (u := .slice (some ⟨b, off, none⟩) 0 0) (o := .cells #[.slice (some ⟨b, off, none⟩) m m] 83) HP.out
      exact ⟨rfl, g1, some ⟨b, off, none⟩, 0, by rw [Nat.sub_self]; exact g2, .inr ⟨rfl, rfl, by omega⟩⟩

set_option maxRecDepth 100000 in
set_option maxHeartbeats 1000000 in
theorem take_nil (gf : Nat) (y : Value) (w : World) (h : Pr w gf 85 (.slice none 0 0) y) :
    Calls Try.prog 136 #[.pointer (some ⟨gf, 0, none⟩), .int .i64 0] w (TakePost gf 0 0 0 none y w) := by
  have HP := Lib.hid h
  have c0 := (HP.out.alloc (.cells #[.slice none 0 0] 83)).c0
  have f0 := (HP.out.alloc (.cells #[.slice none 0 0] 83)).f 0
  have hlt := h.lt
  clear h
  go_enter Try.func136, Try.ntmps136
  go_wp2_with fail
  all_goals
    refine bodyPost_ret (v := .agg #[.slice none 0 0]) (by simp [results, Try.results136, go_sem]) rfl ?_
    obtain ⟨g1, g2⟩ := gr_take (u := .slice none 0 0) (o := .cells #[.slice none 0 0] 83) HP.out
    exact ⟨rfl, g1, none, 0, g2, .inr ⟨rfl, rfl, by omega⟩⟩

theorem take_any (gf z m c : Nat) (A : Option Addr) (D : List Int) (y : Value) (w : World) (h : Pr w gf 85 (.slice A m c) y) (hI : Ints w A D) (hm : D.length = m) (hn : A = none → c = 0) (hz : z ≤ m) (hmc : m ≤ c) (hf : ∀ a, A = some a → a.spot = none) :
    Calls Try.prog 136 #[.pointer (some ⟨gf, 0, none⟩), .int .i64 (z : Int)] w (TakePost gf z m c A y w) := by
  cases A with
  | none =>
    have h0 := hn rfl
    obtain rfl : m = 0 := by omega
    obtain rfl : z = 0 := by omega
    subst h0
    exact take_nil gf y w h
  | some a =>
    obtain ⟨b, off, sp⟩ := a
    have : sp = none := hf _ rfl
    subst this
    exact take_some gf b off z m c y w h hz hmc
end

/- PartF -/
section
open Go.RowKit

def cutP : Nat → List (List Int) → List (List Int)
  | _, [] => []
  | c, L :: LL => L.take c :: cutP (sumI (L.take c)).toNat LL
def cutR : Nat → List (List Int) → List (List Int)
  | _, [] => []
  | c, L :: LL => L.drop c :: cutR (sumI (L.take c)).toNat LL
/-- How many numbers the first array has on the level behind these. -/
def cntE : Nat → List (List Int) → Nat
  | c, [] => c
  | c, L :: LL => cntE (sumI (L.take c)).toNat LL
theorem cntE_step : ∀ (LL : List (List Int)) (c j : Nat) (L : List Int), LL[j]? = some L → cntE c (LL.take (j + 1)) = (sumI (L.take (cntE c (LL.take j)))).toNat
  | [], _, _, _, h => by simp at h
  | M :: LL, c, 0, L, h => by
    simp only [List.getElem?_cons_zero, Option.some.injEq] at h
    subst h
    simp [cntE]
  | M :: LL, c, j + 1, L, h => by
    have := cntE_step LL (sumI (M.take c)).toNat j L (by simpa using h)
    simpa [cntE] using this
theorem cutP_at : ∀ (LL : List (List Int)) (c j : Nat) (L : List Int), LL[j]? = some L → (cutP c LL)[j]? = some (L.take (cntE c (LL.take j)))
  | [], _, _, _, h => by simp at h
  | M :: LL, c, 0, L, h => by
    simp only [List.getElem?_cons_zero, Option.some.injEq] at h
    subst h
    simp [cntE, cutP]
  | M :: LL, c, j + 1, L, h => by
    have := cutP_at LL (sumI (M.take c)).toNat j L (by simpa using h)
    simpa [cntE, cutP] using this
theorem cutR_at : ∀ (LL : List (List Int)) (c j : Nat) (L : List Int), LL[j]? = some L → (cutR c LL)[j]? = some (L.drop (cntE c (LL.take j)))
  | [], _, _, _, h => by simp at h
  | M :: LL, c, 0, L, h => by
    simp only [List.getElem?_cons_zero, Option.some.injEq] at h
    subst h
    simp [cntE, cutR]
  | M :: LL, c, j + 1, L, h => by
    have := cutR_at LL (sumI (M.take c)).toNat j L (by simpa using h)
    simpa [cntE, cutR] using this
theorem cutP_len : ∀ (LL : List (List Int)) (c : Nat), (cutP c LL).length = LL.length
  | [], _ => rfl
  | M :: LL, c => by simp [cutP, cutP_len LL]
theorem cutR_len : ∀ (LL : List (List Int)) (c : Nat), (cutR c LL).length = LL.length
  | [], _ => rfl
  | M :: LL, c => by simp [cutR, cutR_len LL]

/-- A slice of ints that lie below block B. -/
def SlB (B : Nat) (w : World) (v : Value) (zs : List Int) : Prop :=
  ∃ A c, v = .slice A zs.length c ∧ zs.length ≤ c ∧ (A = none → c = 0) ∧ ∀ a, A = some a → ∃ b off, a = ⟨b, off, none⟩ ∧ b < B ∧ b < w.heap.size ∧ ∀ (j : Nat) (z : Int), zs[j]? = some z → w.cell? ⟨b, off + j, none⟩ = some (.int .i64 z)
theorem SlB.ints {B : Nat} {w : World} {A : Option Addr} {n c : Nat} {zs : List Int} (h : SlB B w (.slice A n c) zs) : n = zs.length ∧ zs.length ≤ c ∧ Ints w A zs ∧ (A = none → c = 0) := by
  obtain ⟨A', c', hv, h1, h2, h3⟩ := h
  cases hv
  refine ⟨rfl, h1, fun hl => ?_, h2⟩
  cases A with
  | none => have := h2 rfl; omega
  | some a =>
    obtain ⟨b, off, rfl, _, hb, hc⟩ := h3 a rfl
    exact ⟨b, off, rfl, hb, hc⟩
/-- What lies below block B lies as it lay. -/
def LowK (B : Nat) (w w' : World) : Prop := w.heap.size ≤ w'.heap.size ∧ ∀ k, k < B → k < w.heap.size → w'.heap[k]? = w.heap[k]?
theorem LowK.refl (B : Nat) (w : World) : LowK B w w := ⟨Nat.le_refl _, fun _ _ _ => rfl⟩
theorem LowK.trans {B : Nat} {w w1 w2 : World} (h : LowK B w w1) (h2 : LowK B w1 w2) : LowK B w w2 := ⟨Nat.le_trans h.1 h2.1, fun k hk hw => (h2.2 k hk (Nat.lt_of_lt_of_le hw h.1)).trans (h.2 k hk hw)⟩
theorem LowK.of {B : Nat} {w w' : World} {row : Option Nat} (h : w.grownBy w' row) (hr : ∀ k, row = some k → B ≤ k) : LowK B w w' := ⟨h.size, fun k hk hw => h.block k hw (fun e => by have := hr k e.symm; omega)⟩
theorem SlB.low {B : Nat} {w w' : World} {v : Value} {zs : List Int} (h : SlB B w v zs) (hk : LowK B w w') : SlB B w' v zs := by
  obtain ⟨A, c, rfl, h1, h2, h3⟩ := h
  refine ⟨A, c, rfl, h1, h2, fun a ha => ?_⟩
  obtain ⟨b, off, rfl, hB, hb, hc⟩ := h3 a ha
  refine ⟨b, off, rfl, hB, Nat.lt_of_lt_of_le hb hk.1, fun j z hj => ?_⟩
  have := hc j z hj
  simp only [World.cell?, hk.2 b hB hb] at this ⊢
  exact this
/-- But for two blocks, what lies below a block lies as it lay. -/
structure KpX (g gR base : Nat) (w w' : World) : Prop where
  os : w'.os = w.os
  tape : w'.tape = w.tape
  output : w'.output = w.output
  size : w.heap.size ≤ w'.heap.size
  block : ∀ k, k ≠ g → k ≠ gR → k < base → w'.heap[k]? = w.heap[k]?
theorem KpX.refl (g gR base : Nat) (w : World) : KpX g gR base w w := ⟨rfl, rfl, rfl, Nat.le_refl _, fun _ _ _ _ => rfl⟩
theorem KpX.trans {g gR base : Nat} {w w1 w2 : World} (h : KpX g gR base w w1) (h2 : KpX g gR base w1 w2) : KpX g gR base w w2 :=
  ⟨h2.os.trans h.os, h2.tape.trans h.tape, h2.output.trans h.output, Nat.le_trans h.size h2.size, fun k h3 h4 h5 => (h2.block k h3 h4 h5).trans (h.block k h3 h4 h5)⟩
theorem KpX.of {g gR base : Nat} {w w' : World} {row : Option Nat} (h : w.grownBy w' row) (hr : ∀ k, row = some k → k = g ∨ k = gR ∨ base ≤ k) (hb : base ≤ w.heap.size) : KpX g gR base w w' :=
  ⟨h.os, h.tape, h.output, h.size, fun k h3 h4 h5 => h.block k (Nat.lt_of_lt_of_le h5 hb) (fun e => by rcases hr k e.symm with h | h | h <;> omega)⟩
/-- The first numbers, without room behind them. -/
theorem SlB.front {B : Nat} {w : World} {A : Option Addr} {n c k : Nat} {zs : List Int} (h : SlB B w (.slice A n c) zs) (hk : k ≤ zs.length) : SlB B w (.slice A k k) (zs.take k) := by
  obtain ⟨A', c', hv, h1, h2, h3⟩ := h
  cases hv
  have hl : (zs.take k).length = k := by rw [List.length_take]; omega
  refine ⟨A, k, by rw [hl], by omega, fun e => by have := h2 e; omega, fun a ha => ?_⟩
  obtain ⟨b, off, rfl, hB, hb, hc⟩ := h3 a ha
  refine ⟨b, off, rfl, hB, hb, fun j z hj => hc j z ?_⟩
  rw [List.getElem?_take] at hj
  split at hj
  · exact hj
  · cases hj
/-- The rest: the slice has moved on, unless there is no room behind it. -/
theorem SlB.rest {B : Nat} {w : World} {b off n c k : Nat} {zs : List Int} (h : SlB B w (.slice (some ⟨b, off, none⟩) n c) zs) (hk : k ≤ zs.length) : SlB B w (.slice (some ⟨b, off + k, none⟩) (n - k) (c - k)) (zs.drop k) := by
  obtain ⟨A', c', hv, h1, h2, h3⟩ := h
  cases hv
  have hl : (zs.drop k).length = zs.length - k := List.length_drop
  refine ⟨some ⟨b, off + k, none⟩, c - k, by rw [hl], by omega, (fun e => by cases e), fun a ha => ?_⟩
  cases ha
  obtain ⟨b', off', he, hB, hb, hc⟩ := h3 _ rfl
  cases he
  refine ⟨b, off + k, rfl, hB, hb, fun j z hj => ?_⟩
  rw [List.getElem?_drop] at hj
  have := hc (k + j) z hj
  rwa [← Nat.add_assoc] at this
theorem SlB.none {B : Nat} {w : World} {A : Option Addr} {zs : List Int} (hz : zs = []) (h : ∀ a, A = some a → ∃ b off, a = ⟨b, off, none⟩ ∧ b < B ∧ b < w.heap.size) : SlB B w (.slice A 0 0) zs := by
  subst hz
  refine ⟨A, 0, rfl, Nat.le_refl _, fun _ => rfl, fun a ha => ?_⟩
  obtain ⟨b, off, rfl, h1, h2⟩ := h a ha
  exact ⟨b, off, rfl, h1, h2, fun j z hj => by simp at hj⟩
end

/- Part -/
section
open Go.RowKit

/-- The state within takePart: the receiver, the part's box, the result's; the row of the levels, and that of the part's. -/
structure TK (B base g gp gz : Nat) (LL : List (List Int)) (w : World) (x : Value) (gR n cR j : Nat) (P : Option Addr) (cP : Nat) (us ps : List Value) : Prop where
  pg : Pr w g 85 x (.slice (some ⟨gR, 0, none⟩) n cR)
  pp : Pr w gp 85 (.slice none 0 0) (.slice P j cP)
  pz : ∃ a b, Pr w gz 85 a b
  rR : w.ownsRow B 23 1 (.slice (some ⟨gR, 0, none⟩) n cR) n us
  rP : w.ownsRow base 23 1 (.slice P j cP) j ps
  tk : ∀ (i : Nat) (L : List Int), i < j → LL[i]? = some L → ∃ v, ps[i]? = some v ∧ SlB B w v (L.take (cntE 1 (LL.take i)))
  dr : ∀ (i : Nat) (L : List Int), i < j → LL[i]? = some L → ∃ v, us[i]? = some v ∧ SlB B w v (L.drop (cntE 1 (LL.take i)))
  st : ∀ (i : Nat) (L : List Int), j ≤ i → LL[i]? = some L → ∃ v, us[i]? = some v ∧ SlB B w v L
  b1 : B ≤ base
  b2 : gR < base
  b3 : B ≤ g
  b4 : base ≤ gp
  n1 : g ≠ gp
  n2 : gz ≠ gp

/-- One level more: the rest is stored, the front is behind the part's levels, and the part holds them. -/
theorem TK.step {B base g gp gz gR n cR j cP k : Nat} {LL : List (List Int)} {w w3 w5 : World} {x rest front : Value} {P : Option Addr} {us ps : List Value} {L : List Int} {v8 : Value} {o : Obj} (h : TK B base g gp gz LL w x gR n cR j P cP us ps)
    (hL : LL[j]? = some L) (hk : cntE 1 (LL.take j) = k) (hf : SlB B w front (L.take k)) (hr : SlB B w rest (L.drop k)) (hj : j < n) (hus : us.length = n)
    (hw3 : (w.setCell ⟨gR, j, none⟩ rest).grownBy w3 none)
    (ho : w5.ownsRow base 23 1 v8 (j + 1) (ps ++ [front])) (hg : (w3.alloc o).grownBy w5 (Value.slice P j cP).ownBlock) (hat : v8.ownBlock = (Value.slice P j cP).ownBlock ∨ v8.ownBlock = some (w3.heap.size + 1)) :
    ∃ g8 c8, v8 = .slice (some ⟨g8, 0, none⟩) (j + 1) c8 ∧ Pr w5 gp 85 (.slice none 0 0) (.slice P j cP) ∧
      TK B base g gp gz LL (w5.setCell ⟨gp, 1, none⟩ v8) x gR n cR (j + 1) (some ⟨g8, 0, none⟩) c8 (us.set j rest) (ps ++ [front]) ∧ LowK B w (w5.setCell ⟨gp, 1, none⟩ v8) ∧ KpX g gR base w (w5.setCell ⟨gp, 1, none⟩ v8) := by
  obtain ⟨g8, c8, rfl⟩ : ∃ g8 c8, v8 = .slice (some ⟨g8, 0, none⟩) (j + 1) c8 := by
    rcases ho.2 with ⟨_, hn⟩ | ⟨g, cap, cur, hv, _⟩
    · omega
    · exact ⟨g, cap, hv⟩
  have hlt := h.rR.lt gR rfl
  obtain ⟨hs1, hs2⟩ := h.rR.stored j rest
  -- the store
  have hg3 : w.grownBy w3 (some gR) := hs2.trans ⟨hw3.os, hw3.tape, hw3.output, hw3.size, fun k hk _ => hw3.block k hk (by simp)⟩
  have hPR : ∀ q, (Value.slice P j cP).ownBlock = some q → base ≤ q ∧ q < w.heap.size := h.rP.lt
  have pg3 := (box_row h.pg h.rR (by decide) hs2).grown hw3 (by simp)
  have pp3 := (box_row h.pp h.rR (by decide) hs2).grown hw3 (by simp)
  obtain ⟨za, zb, hz⟩ := h.pz
  have pz3 := (box_row hz h.rR (by decide) hs2).grown hw3 (by simp)
  have rR3 := own_keep hs1 (fun q hq => hw3.block q (hs1.lt q hq).2 (by simp))
  have rP3 := own_keep h.rP (fun q hq => hg3.block q (hPR q hq).2 (by have := (hPR q hq).1; have := h.b2; simp; omega))
  -- the append
  have hg5 : w3.grownBy w5 (Value.slice P j cP).ownBlock := (World.grownBy_alloc w3 o _).trans hg
  have pg5 := box_row pg3 rP3 (by decide) hg5
  have pp5 := box_row pp3 rP3 (by decide) hg5
  have pz5 := box_row pz3 rP3 (by decide) hg5
  have rR5 := own_keep rR3 (fun q hq => hg5.block q (rR3.lt q hq).2 (fun e => by
    have h1 := (hPR q e.symm).1
    have h2 := h.b2
    simp [Value.ownBlock] at hq
    omega))
  -- the part's field
  have hg6 := gr_set w5 gp 1 (.slice (some ⟨g8, 0, none⟩) (j + 1) c8)
  have hlow : LowK B w (w5.setCell ⟨gp, 1, none⟩ (.slice (some ⟨g8, 0, none⟩) (j + 1) c8)) := by
    refine ((LowK.of hg3 (fun k hk => by cases hk; exact hlt.1)).trans (LowK.of hg5 (fun q hq => ?_))).trans (LowK.of hg6 (fun q hq => ?_))
    · have := (hPR q hq).1
      have := h.b1
      omega
    · cases hq
      have := h.b1
      have := h.b4
      omega
  have hbw : base ≤ w.heap.size := by have := h.pp.lt; have := h.b4; omega
  have hkp : KpX g gR base w (w5.setCell ⟨gp, 1, none⟩ (.slice (some ⟨g8, 0, none⟩) (j + 1) c8)) :=
    ((KpX.of hg3 (fun k hk => by cases hk; exact .inr (.inl rfl)) hbw).trans (KpX.of hg5 (fun q hq => .inr (.inr (hPR q hq).1)) (Nat.le_trans hbw hg3.size))).trans (KpX.of hg6 (fun q hq => by cases hq; exact .inr (.inr h.b4)) (Nat.le_trans hbw (Nat.le_trans hg3.size hg5.size)))
  refine ⟨g8, c8, rfl, pp5, ⟨pg5.grown hg6 (by simpa using h.n1), pp5.set1 _, ⟨za, zb, pz5.grown hg6 (by simpa using h.n2)⟩, own_box rR5 pp5 (by decide) hg6, own_box ho pp5 (by decide) hg6, ?_, ?_, ?_, h.b1, h.b2, h.b3, h.b4, h.n1, h.n2⟩, hlow, hkp⟩
  · intro i M hi hM
    have hpl : ps.length = j := by have := h.rP.1; omega
    by_cases e : i = j
    · subst e
      rw [hL] at hM
      cases hM
      rw [hk]
      exact ⟨front, by rw [List.getElem?_append_right (by omega), hpl]; simp, hf.low hlow⟩
    · obtain ⟨v, hv, hs⟩ := h.tk i M (by omega) hM
      exact ⟨v, by rw [List.getElem?_append_left (by omega)]; exact hv, hs.low hlow⟩
  · intro i M hi hM
    by_cases e : i = j
    · subst e
      rw [hL] at hM
      cases hM
      rw [hk]
      exact ⟨rest, by rw [List.getElem?_set, if_pos rfl, if_pos (by omega)], hr.low hlow⟩
    · obtain ⟨v, hv, hs⟩ := h.dr i M (by omega) hM
      exact ⟨v, by rw [List.getElem?_set, if_neg (by omega)]; exact hv, hs.low hlow⟩
  · intro i M hi hM
    obtain ⟨v, hv, hs⟩ := h.st i M (by omega) hM
    exact ⟨v, by rw [List.getElem?_set, if_neg (by omega)]; exact hv, hs.low hlow⟩

/-- How takePart ends: the part, and the rest in the receiver. -/
def PartPost (B g gR cR : Nat) (LL : List (List Int)) (D : List Int) (w : World) (e : Ending) (w' : World) : Prop :=
  ∃ Bd Bd2 cd P cP us ps, e = .returned (.agg #[.slice Bd (cntE 1 LL) (cntE 1 LL), .slice P LL.length cP]) ∧ LowK B w w' ∧ KpX g gR w.heap.size w w' ∧
    Pr w' g 85 (.slice Bd2 (D.length - cntE 1 LL) cd) (.slice (some ⟨gR, 0, none⟩) LL.length cR) ∧ w'.ownsRow B 23 1 (.slice (some ⟨gR, 0, none⟩) LL.length cR) LL.length us ∧
    (∀ (i : Nat) (L : List Int), LL[i]? = some L → ∃ v, us[i]? = some v ∧ SlB B w' v (L.drop (cntE 1 (LL.take i)))) ∧ SlB B w' (.slice Bd2 (D.length - cntE 1 LL) cd) (D.drop (cntE 1 LL)) ∧
    w'.ownsRow w.heap.size 23 1 (.slice P LL.length cP) LL.length ps ∧ (∀ (i : Nat) (L : List Int), LL[i]? = some L → ∃ v, ps[i]? = some v ∧ SlB B w' v (L.take (cntE 1 (LL.take i)))) ∧ SlB B w' (.slice Bd (cntE 1 LL) (cntE 1 LL)) (D.take (cntE 1 LL))

set_option maxRecDepth 100000 in
set_option maxHeartbeats 8000000 in
theorem takepart_some (B g gR cB cR : Nat) (Bd : Option Addr) (vs : List Value) (LL : List (List Int)) (D : List Int) (w : World)
    (hp : Pr w g 85 (.slice Bd D.length cB) (.slice (some ⟨gR, 0, none⟩) LL.length cR)) (hown : w.ownsRow B 23 1 (.slice (some ⟨gR, 0, none⟩) LL.length cR) LL.length vs)
    (hsl : ∀ (i : Nat) (L : List Int), LL[i]? = some L → ∃ v, vs[i]? = some v ∧ SlB B w v L) (hd : SlB B w (.slice Bd D.length cB) D) (hB : B ≤ g)
    (hfit : ∀ (j : Nat) (L : List Int), LL[j]? = some L → cntE 1 (LL.take j) ≤ L.length ∧ okN 400 L = true ∧ L.length ≤ 1048576) (hfd : cntE 1 LL ≤ D.length) (hn : LL.length ≤ 1048576) :
    Calls Try.prog 112 #[.pointer (some ⟨g, 0, none⟩)] w (PartPost B g gR cR LL D w) := by
  obtain ⟨i0, hi0, hz0, hz1, hz2⟩ := info_parts infoL
  have hgl := hp.lt
  have hrl := (hown.lt gR rfl)
  obtain ⟨n, hnn⟩ : ∃ n, LL.length = n := ⟨_, rfl⟩
  obtain ⟨m, hmm⟩ : ∃ m, D.length = m := ⟨_, rfl⟩
  have hT0 : TK B w.heap.size g (w.heap.size + 1) w.heap.size LL ((w.alloc (.cells #[.slice none 0 0, .slice none 0 0] 85)).alloc (.cells #[.slice none 0 0, .slice none 0 0] 85)) (.slice Bd m cB) gR n cR 0 none 0 vs [] := by
    have hg := (World.grownBy_alloc w (.cells #[.slice none 0 0, .slice none 0 0] 85) none).trans (World.grownBy_alloc _ (.cells #[.slice none 0 0, .slice none 0 0] 85) none)
    have hpn := Pr.new (w.alloc (.cells #[.slice none 0 0, .slice none 0 0] 85)) 85 (.slice none 0 0) (.slice none 0 0)
    rw [World.size_alloc] at hpn
    rw [hnn, hmm] at hp
    rw [hnn] at hown
    exact ⟨hp.grown hg (by simp), hpn, ⟨_, _, (Pr.new w 85 _ _).alloc _⟩, (hown.alloc _).alloc _, World.ownsRow_nil _ _ _ _, fun i L hi => by omega, fun i L hi => by omega, fun i L _ hL => by
      obtain ⟨v, hv, hs⟩ := hsl i L hL
      exact ⟨v, hv, hs.low (LowK.of hg (by simp))⟩, by omega, by omega, hB, by omega, by omega, by omega⟩
  have HT0 := Lib.hid hT0
  have HLO0 := Lib.hid (LowK.of (B := B) ((World.grownBy_alloc w (.cells #[.slice none 0 0, .slice none 0 0] 85) none).trans (World.grownBy_alloc _ (.cells #[.slice none 0 0, .slice none 0 0] 85) none)) (by simp))
  have HKP0 := Lib.hid (KpX.of (g := g) (gR := gR) (base := w.heap.size) ((World.grownBy_alloc w (.cells #[.slice none 0 0, .slice none 0 0] 85) none).trans (World.grownBy_alloc _ (.cells #[.slice none 0 0, .slice none 0 0] 85) none)) (by simp) (Nat.le_refl _))
  have HFIT := Lib.hid hfit
  have HFD := Lib.hid hfd
  have HD := Lib.hid hd
  have HN := Lib.hid hnn
  have HM := Lib.hid hmm
  have p1 := hT0.pg.c1
  rw [hnn] at hn
  clear hT0 hp hown hsl hd hfit hfd hnn hmm
  go_enter Try.func112, Try.ntmps112
  go_wp2_with fail
  generalize (w.alloc (.cells #[.slice none 0 0, .slice none 0 0] 85)).alloc (.cells #[.slice none 0 0, .slice none 0 0] 85) = u0 at HT0 HLO0 HKP0 p1 ⊢
  clear p1
  go_loopw [4, 13] (fun kk i wr => ∃ (j k : Nat) (P : Option Addr) (cP : Nat) (us ps : List Value), j ≤ n ∧ i = .int .i64 j ∧ kk = .int .i64 k ∧ Hid (k = cntE 1 (LL.take j)) ∧ Hid (TK B w.heap.size g (w.heap.size + 1) w.heap.size LL wr (.slice Bd m cB) gR n cR j P cP us ps) ∧ Hid (LowK B w wr) ∧ Hid (KpX g gR w.heap.size w wr)) (fun _ i _ => n - (intOf i).toNat)
  case atStart => exact ⟨0, 1, none, 0, _, _, Nat.zero_le _, rfl, rfl, Lib.hid rfl, HT0, HLO0, HKP0⟩
  case round =>
    clear HT0 HLO0 HKP0
    obtain ⟨j, k, P, cP, us, ps, hj, rfl, rfl, hkk, HT, HLO, HKP⟩ := hrel
    obtain ⟨wo, rfl⟩ : ∃ wo : World, wo = wr := ⟨_, rfl⟩
    by_cases hlt : j < n
    · obtain ⟨L, hL⟩ : ∃ L, LL[j]? = some L := ⟨_, List.getElem?_eq_getElem (by have := HN.out; omega)⟩
      obtain ⟨v, hv, hs⟩ := HT.out.st j L (Nat.le_refl _) hL
      obtain ⟨Aj, cj, rfl, hlc, hnil, haddr⟩ := id hs
      have HFT := Lib.hid (HFIT.out j L hL)
      have hkl : k ≤ L.length := by have := HFT.out.1; have := hkk.out; omega
      have hl6 : L.length ≤ 1048576 := HFT.out.2.2
      have HL := Lib.hid hL
      obtain ⟨ql, hql⟩ : ∃ q, L.length = q := ⟨_, rfl⟩
      have hcellR : wo.cell? ⟨gR, j, none⟩ = some (.slice Aj L.length cj) := (HT.out.rR.cellAt j (by omega)).trans hv
      have hfr := HT.out.rR.frozenAt j
      have p1 := HT.out.pg.c1
      rw [hql] at hcellR hs
      clear hL hv
      cases Aj with
      | none =>
        have hc0 := hnil rfl
        have hq0 : ql = 0 := by omega
        have hk0 : k = 0 := by omega
        clear hnil haddr
        subst hc0 hq0 hk0
        have hfront : SlB B wo (.slice none 0 0) (L.take 0) := hs.front (Nat.zero_le _)
        have hrest : SlB B wo (.slice none 0 0) (L.drop 0) := SlB.none (List.eq_nil_of_length_eq_zero (by rw [List.length_drop]; omega)) (by simp)
        have HF := Lib.hid hfront
        have HRS := Lib.hid hrest
        clear hfront hrest hs
        go_wp2_with fail
        go_region
        have hw3 : (wo.setCell ⟨gR, j, none⟩ (.slice none 0 0)).grownBy (wo.setCell ⟨gR, j, none⟩ (.slice none 0 0)).drew none := gr_drewN _ 1 none
        have HW3 := Lib.hid hw3
        have HS2 := Lib.hid (HT.out.rR.stored j (.slice none 0 0)).2
        have pp3 := (box_row HT.out.pp HT.out.rR (by decide) HS2.out).grown hw3 (by simp)
        have hgg3 : wo.grownBy (wo.setCell ⟨gR, j, none⟩ (.slice none 0 0)).drew (some gR) := HS2.out.trans ⟨hw3.os, hw3.tape, hw3.output, hw3.size, fun k hk _ => hw3.block k hk (by simp)⟩
        have rP3 := own_keep HT.out.rP (fun q hq => hgg3.block q (HT.out.rP.lt q hq).2 (by have := (HT.out.rP.lt q hq).1; have := HT.out.b2; simp; omega))
        generalize (wo.setCell ⟨gR, j, none⟩ (.slice none 0 0)).drew = w3 at HW3 pp3 rP3 hgg3 ⊢
        have q1 := pp3.c1
        have hown2 := rP3.alloc (.cells #[.slice none 0 0] 23)
        have HNL := Lib.hid (cell_one_new w3 (.slice none 0 0) 23)
        have hszB : w.heap.size ≤ w3.heap.size := Nat.le_trans HLO.out.1 hgg3.size
        clear pp3 rP3 hgg3 hw3 hcellR hfr
        go_wp2_with (at_builtin; refine wpList_append_own_at _ rfl _ _ 22 rfl w.heap.size 23 i0 (.slice none 0 0) 1 24 Try.underlying22 hi0 hz0 hz1 hz2 rfl (by decide) _ _ _ rfl hown2 ⟨w3.heap.size, 0, none⟩ 1 1 [.slice none 0 0] rfl rfl HNL.out ?c2 ?c3 ?c4 ?c5 ?_)
        case c2 => simp [Value.oneCell']
        case c3 => simp only [maxLen]; omega
        case c4 => omega
        case c5 => (try simp only [World.size_alloc]); omega
        intro v8 w5 hown8 hg8 _ hat8
        obtain ⟨g8, c8, rfl, hpp5, hTK, hlow, hkp⟩ := HT.out.step HL.out hkk.out.symm HF.out HRS.out hlt (by have := HT.out.rR.1; omega) HW3.out hown8 hg8 (by simpa using hat8)
        have q5 := hpp5.c1
        have f5 := hpp5.f 1
        have hsum := sumof_any none 0 (L.take 0) _ (HF.out.low hlow).ints.2.2.1 (okN_take HFT.out.2.1 0) (by rw [List.length_take]; have := HFT.out.2.2; omega)
        rw [show (L.take 0).length = 0 by rw [List.length_take]; omega] at hsum
        have hsb := sumI_bound (okN_take HFT.out.2.1 0)
        obtain ⟨k2, hk2⟩ : ∃ k2 : Nat, sumI (L.take 0) = (k2 : Int) := ⟨(sumI (L.take 0)).toNat, by omega⟩
        rw [hk2] at hsum
        have HSUM := Lib.hid hsum
        have HTK := Lib.hid hTK
        have HLO := Lib.hid (HLO.out.trans hlow)
        have HKP := Lib.hid (HKP.out.trans hkp)
        have HK2 := Lib.hid (show k2 = cntE 1 (LL.take (j + 1)) by rw [cntE_step LL 1 j L HL.out, ← hkk.out, hk2, Int.toNat_natCast])
        clear hown8 hg8 hat8 hTK hlow hkp hpp5 hsum hsb hk2 hown2 HNL
        go_wp2_with fail
        refine HSUM.out.mono ?_
        rintro e w9 ⟨rfl, rfl⟩
        go_wp2_with fail
        go_roundw
        case rel => exact ⟨j + 1, k2, _, c8, _, _, by omega, by go_num, rfl, HK2, HTK, HLO, HKP⟩
        case measure => simp [intOf]; omega
      | some a =>
        obtain ⟨b, off, rfl, hbB, hbs, _⟩ := haddr a rfl
        clear hnil
        by_cases hck : cj = k
        · subst hck
          have hqk : ql = cj := by omega
          subst hqk
          have hfront : SlB B wo (.slice (some ⟨b, off, none⟩) ql ql) (L.take ql) := hs.front hkl
          have hrest : SlB B wo (.slice (some ⟨b, off, none⟩) 0 0) (L.drop ql) := SlB.none (List.eq_nil_of_length_eq_zero (by rw [List.length_drop]; omega)) (fun a ha => by cases ha; exact ⟨b, off, rfl, hbB, hbs⟩)
          have HF := Lib.hid hfront
          have HRS := Lib.hid hrest
          clear hfront hrest hs
          go_wp2_with fail
          go_region
          have hw3 : (wo.setCell ⟨gR, j, none⟩ (.slice (some ⟨b, off, none⟩) 0 0)).grownBy (wo.setCell ⟨gR, j, none⟩ (.slice (some ⟨b, off, none⟩) 0 0)).drew none := gr_drewN _ 1 none
          have HW3 := Lib.hid hw3
          have HS2 := Lib.hid (HT.out.rR.stored j (.slice (some ⟨b, off, none⟩) 0 0)).2
          have pp3 := (box_row HT.out.pp HT.out.rR (by decide) HS2.out).grown hw3 (by simp)
          have hgg3 : wo.grownBy (wo.setCell ⟨gR, j, none⟩ (.slice (some ⟨b, off, none⟩) 0 0)).drew (some gR) := HS2.out.trans ⟨hw3.os, hw3.tape, hw3.output, hw3.size, fun k hk _ => hw3.block k hk (by simp)⟩
          have rP3 := own_keep HT.out.rP (fun q hq => hgg3.block q (HT.out.rP.lt q hq).2 (by have := (HT.out.rP.lt q hq).1; have := HT.out.b2; simp; omega))
          generalize (wo.setCell ⟨gR, j, none⟩ (.slice (some ⟨b, off, none⟩) 0 0)).drew = w3 at HW3 pp3 rP3 hgg3 ⊢
          have q1 := pp3.c1
          have hown2 := rP3.alloc (.cells #[.slice (some ⟨b, off, none⟩) ql ql] 23)
          have HNL := Lib.hid (cell_one_new w3 (.slice (some ⟨b, off, none⟩) ql ql) 23)
          have hszB : w.heap.size ≤ w3.heap.size := Nat.le_trans HLO.out.1 hgg3.size
          clear pp3 rP3 hgg3 hw3 hcellR hfr
          go_wp2_with (at_builtin; refine wpList_append_own_at _ rfl _ _ 22 rfl w.heap.size 23 i0 (.slice none 0 0) 1 24 Try.underlying22 hi0 hz0 hz1 hz2 rfl (by decide) _ _ _ rfl hown2 ⟨w3.heap.size, 0, none⟩ 1 1 [.slice (some ⟨b, off, none⟩) ql ql] rfl rfl HNL.out ?c2 ?c3 ?c4 ?c5 ?_)
          case c2 => simp [Value.oneCell']
          case c3 => simp only [maxLen]; omega
          case c4 => omega
          case c5 => (try simp only [World.size_alloc]); omega
          intro v8 w5 hown8 hg8 _ hat8
          obtain ⟨g8, c8, rfl, hpp5, hTK, hlow, hkp⟩ := HT.out.step HL.out hkk.out.symm HF.out HRS.out hlt (by have := HT.out.rR.1; omega) HW3.out hown8 hg8 (by simpa using hat8)
          have q5 := hpp5.c1
          have f5 := hpp5.f 1
          have hsum := sumof_any (some ⟨b, off, none⟩) ql (L.take ql) _ (HF.out.low hlow).ints.2.2.1 (okN_take HFT.out.2.1 ql) (by rw [List.length_take]; have := HFT.out.2.2; omega)
          rw [show (L.take ql).length = ql by rw [List.length_take]; omega] at hsum
          have hsb := sumI_bound (okN_take HFT.out.2.1 ql)
          obtain ⟨k2, hk2⟩ : ∃ k2 : Nat, sumI (L.take ql) = (k2 : Int) := ⟨(sumI (L.take ql)).toNat, by omega⟩
          rw [hk2] at hsum
          have HSUM := Lib.hid hsum
          have HTK := Lib.hid hTK
          have HLO := Lib.hid (HLO.out.trans hlow)
          have HKP := Lib.hid (HKP.out.trans hkp)
          have HK2 := Lib.hid (show k2 = cntE 1 (LL.take (j + 1)) by rw [cntE_step LL 1 j L HL.out, ← hkk.out, hk2, Int.toNat_natCast])
          clear hown8 hg8 hat8 hTK hlow hkp hpp5 hsum hsb hk2 hown2 HNL
          go_wp2_with fail
          refine HSUM.out.mono ?_
          rintro e w9 ⟨rfl, rfl⟩
          go_wp2_with fail
          go_roundw
          case rel => exact ⟨j + 1, k2, _, c8, _, _, by omega, by go_num, rfl, HK2, HTK, HLO, HKP⟩
          case measure => simp [intOf]; omega
        · have hck2 : k < cj := by omega
          have hfront : SlB B wo (.slice (some ⟨b, off, none⟩) k k) (L.take k) := hs.front hkl
          have hrest : SlB B wo (.slice (some ⟨b, off + k, none⟩) (ql - k) (cj - k)) (L.drop k) := hs.rest hkl
          have HF := Lib.hid hfront
          have HRS := Lib.hid hrest
          clear hfront hrest hs
          go_wp2_with fail
          go_region
          have hw3 : (wo.setCell ⟨gR, j, none⟩ (.slice (some ⟨b, off + k, none⟩) (ql - k) (cj - k))).grownBy (wo.setCell ⟨gR, j, none⟩ (.slice (some ⟨b, off + k, none⟩) (ql - k) (cj - k))).drew none := gr_drewN _ 1 none
          have HW3 := Lib.hid hw3
          have HS2 := Lib.hid (HT.out.rR.stored j (.slice (some ⟨b, off + k, none⟩) (ql - k) (cj - k))).2
          have pp3 := (box_row HT.out.pp HT.out.rR (by decide) HS2.out).grown hw3 (by simp)
          have hgg3 : wo.grownBy (wo.setCell ⟨gR, j, none⟩ (.slice (some ⟨b, off + k, none⟩) (ql - k) (cj - k))).drew (some gR) := HS2.out.trans ⟨hw3.os, hw3.tape, hw3.output, hw3.size, fun k hk _ => hw3.block k hk (by simp)⟩
          have rP3 := own_keep HT.out.rP (fun q hq => hgg3.block q (HT.out.rP.lt q hq).2 (by have := (HT.out.rP.lt q hq).1; have := HT.out.b2; simp; omega))
          generalize (wo.setCell ⟨gR, j, none⟩ (.slice (some ⟨b, off + k, none⟩) (ql - k) (cj - k))).drew = w3 at HW3 pp3 rP3 hgg3 ⊢
          have q1 := pp3.c1
          have hown2 := rP3.alloc (.cells #[.slice (some ⟨b, off, none⟩) k k] 23)
          have HNL := Lib.hid (cell_one_new w3 (.slice (some ⟨b, off, none⟩) k k) 23)
          have hszB : w.heap.size ≤ w3.heap.size := Nat.le_trans HLO.out.1 hgg3.size
          clear pp3 rP3 hgg3 hw3 hcellR hfr
          go_wp2_with (at_builtin; refine wpList_append_own_at _ rfl _ _ 22 rfl w.heap.size 23 i0 (.slice none 0 0) 1 24 Try.underlying22 hi0 hz0 hz1 hz2 rfl (by decide) _ _ _ rfl hown2 ⟨w3.heap.size, 0, none⟩ 1 1 [.slice (some ⟨b, off, none⟩) k k] rfl rfl HNL.out ?c2 ?c3 ?c4 ?c5 ?_)
          case c2 => simp [Value.oneCell']
          case c3 => simp only [maxLen]; omega
          case c4 => omega
          case c5 => (try simp only [World.size_alloc]); omega
          intro v8 w5 hown8 hg8 _ hat8
          obtain ⟨g8, c8, rfl, hpp5, hTK, hlow, hkp⟩ := HT.out.step HL.out hkk.out.symm HF.out HRS.out hlt (by have := HT.out.rR.1; omega) HW3.out hown8 hg8 (by simpa using hat8)
          have q5 := hpp5.c1
          have f5 := hpp5.f 1
          have hsum := sumof_any (some ⟨b, off, none⟩) k (L.take k) _ (HF.out.low hlow).ints.2.2.1 (okN_take HFT.out.2.1 k) (by rw [List.length_take]; have := HFT.out.2.2; omega)
          rw [show (L.take k).length = k by rw [List.length_take]; omega] at hsum
          have hsb := sumI_bound (okN_take HFT.out.2.1 k)
          obtain ⟨k2, hk2⟩ : ∃ k2 : Nat, sumI (L.take k) = (k2 : Int) := ⟨(sumI (L.take k)).toNat, by omega⟩
          rw [hk2] at hsum
          have HSUM := Lib.hid hsum
          have HTK := Lib.hid hTK
          have HLO := Lib.hid (HLO.out.trans hlow)
          have HKP := Lib.hid (HKP.out.trans hkp)
          have HK2 := Lib.hid (show k2 = cntE 1 (LL.take (j + 1)) by rw [cntE_step LL 1 j L HL.out, ← hkk.out, hk2, Int.toNat_natCast])
          clear hown8 hg8 hat8 hTK hlow hkp hpp5 hsum hsb hk2 hown2 HNL
          go_wp2_with fail
          refine HSUM.out.mono ?_
          rintro e w9 ⟨rfl, rfl⟩
          go_wp2_with fail
          go_roundw
          case rel => exact ⟨j + 1, k2, _, c8, _, _, by omega, by go_num, rfl, HK2, HTK, HLO, HKP⟩
          case measure => simp [intOf]; omega
    · obtain rfl : j = n := by omega
      have hkE : cntE 1 LL = k := by rw [hkk.out, show LL.take j = LL from List.take_of_length_le (by have := HN.out; omega)]
      have HKE := Lib.hid hkE
      have hdl := HD.out.low HLO.out
      rw [HM.out] at hdl
      obtain ⟨_, hmc, hI, hnil⟩ := hdl.ints
      have HDL := Lib.hid hdl
      have hkm : k ≤ m := by have := HFD.out; have := HM.out; omega
      have HTA := Lib.hid (take_any g k m cB Bd D (.slice (some ⟨gR, 0, none⟩) j cR) wo HT.out.pg hI HM.out hnil hkm (by have := HM.out; omega) (fun a ha => by
        obtain ⟨A', c', hv, _, _, h3⟩ := HDL.out
        cases hv
        obtain ⟨b, off, rfl, _⟩ := h3 a ha
        rfl))
      clear hdl hmc hI hnil hkE
      go_wp2_with fail
      refine HTA.out.mono ?_
      rintro e w9 ⟨rfl, hg9, A', c', hp9, hcase⟩
      have pp9 := HT.out.pp.grown hg9 (by have := HT.out.n1; simp; omega)
      obtain ⟨za, zb, hz⟩ := HT.out.pz
      have pz9 := hz.grown hg9 (by simp; omega)
      have q0 := pp9.c0
      have f0 := pp9.f 0
      have hgs := gr_set w9 (w.heap.size + 1) 0 (.slice Bd k k)
      have pz10 := pz9.grown hgs (by simp)
      have pp10 := pp9.set0 (.slice Bd k k)
      have HH := Lib.hid (And.intro hg9 (And.intro hp9 (And.intro pp9 (And.intro pz10 (And.intro pp10 (And.intro hgs hcase))))))
      have q2 := pp10.c0
      have q3 := pp10.c1
      have z0 := pz10.c0
      have z1 := pz10.c1
      have zf0 := pz10.f 0
      have zf1 := pz10.f 1
      clear hg9 hp9 pp9 pz9 hgs pz10 pp10 hcase hz HTA
      go_wp2_with fail
      obtain ⟨hg9, hp9, pp9, pz10, pp10, hgs, hcase⟩ := HH.out
      have T1 := (pz10.set0 (.slice Bd k k)).set1 (.slice P j cP)
      have r0 := T1.c0
      have r1 := T1.c1
      refine bodyPost_ret (v := .agg #[.slice Bd k k, .slice P j cP]) (by simp [results, Try.results112, go_sem, r0, r1]) rfl ?_
      have hgz := (gr_set (w9.setCell ⟨w.heap.size + 1, 0, none⟩ (.slice Bd k k)) w.heap.size 0 (.slice Bd k k)).trans (gr_set ((w9.setCell ⟨w.heap.size + 1, 0, none⟩ (.slice Bd k k)).setCell ⟨w.heap.size, 0, none⟩ (.slice Bd k k)) w.heap.size 1 (.slice P j cP))
      generalize ((w9.setCell ⟨w.heap.size + 1, 0, none⟩ (.slice Bd k k)).setCell ⟨w.heap.size, 0, none⟩ (.slice Bd k k)).setCell ⟨w.heap.size, 1, none⟩ (.slice P j cP) = W at hgz ⊢
      generalize w9.setCell ⟨w.heap.size + 1, 0, none⟩ (.slice Bd k k) = w10 at hgs pz10 pp10 hgz
      have hb1 := HT.out.b1
      have hlow : LowK B wo W := ((LowK.of hg9 (fun q hq => by cases hq; exact HT.out.b3)).trans (LowK.of hgs (fun q hq => by cases hq; omega))).trans (LowK.of hgz (fun q hq => by cases hq; exact hb1))
      have hb4 := HT.out.b4
      have hszo : w.heap.size ≤ wo.heap.size := HLO.out.1
      have hkp : KpX g gR w.heap.size wo W := ((KpX.of hg9 (fun q hq => by cases hq; exact .inl rfl) hszo).trans (KpX.of hgs (fun q hq => by cases hq; right; right; omega) (Nat.le_trans hszo hg9.size))).trans (KpX.of hgz (fun q hq => by cases hq; right; right; omega) (Nat.le_trans hszo (Nat.le_trans hg9.size hgs.size)))
      have rR := own_box (own_box (own_box HT.out.rR HT.out.pg (by decide) hg9) pp9 (by decide) hgs) pz10 (by decide) hgz
      have rP := own_box (own_box (own_box HT.out.rP HT.out.pg (by decide) hg9) pp9 (by decide) hgs) pz10 (by decide) hgz
      have pgW := (hp9.grown hgs (by have := HT.out.n1; simp; omega)).grown hgz (by simp; omega)
      have hDW := HDL.out.low hlow
      refine ⟨Bd, A', c', P, cP, us, ps, by rw [HKE.out, HN.out], HLO.out.trans hlow, HKP.out.trans hkp, by rw [HKE.out, HM.out, HN.out]; exact pgW, by rw [HN.out]; exact rR, fun i L hL => ?_, ?_, by rw [HN.out]; exact rP, fun i L hL => ?_, ?_⟩
      · obtain ⟨v, hv, hs⟩ := HT.out.dr i L (by have := HN.out; have := (List.getElem?_eq_some_iff.1 hL).1; omega) hL
        exact ⟨v, hv, hs.low hlow⟩
      · rw [HKE.out, HM.out]
        rcases hcase with ⟨b, off, rfl, rfl, rfl⟩ | ⟨rfl, rfl, h0⟩
        · exact hDW.rest (by have := HM.out; omega)
        · rw [h0]
          refine SlB.none (List.eq_nil_of_length_eq_zero (by rw [List.length_drop]; have := HM.out; omega)) (fun a ha => ?_)
          obtain ⟨A2, c2, hv, _, _, h3⟩ := hDW
          cases hv
          obtain ⟨b, off, h4, h5, h6, _⟩ := h3 a ha
          exact ⟨b, off, h4, h5, h6⟩
      · obtain ⟨v, hv, hs⟩ := HT.out.tk i L (by have := HN.out; have := (List.getElem?_eq_some_iff.1 hL).1; omega) hL
        exact ⟨v, hv, hs.low hlow⟩
      · rw [HKE.out]
        exact hDW.front (by have := HM.out; omega)
end

/- Part0 -/
section
open Go.RowKit

set_option maxRecDepth 100000 in
set_option maxHeartbeats 4000000 in
theorem takepart_none (B g cB cR : Nat) (Bd R : Option Addr) (D : List Int) (w : World) (hp : Pr w g 85 (.slice Bd D.length cB) (.slice R 0 cR)) (hd : SlB B w (.slice Bd D.length cB) D) (hB : B ≤ g) (h1 : 1 ≤ D.length) :
    Calls Try.prog 112 #[.pointer (some ⟨g, 0, none⟩)] w fun e w' => ∃ Bd2 cd, e = .returned (.agg #[.slice Bd 1 1, .slice none 0 0]) ∧ LowK B w w' ∧ KpX g g w.heap.size w w' ∧
      Pr w' g 85 (.slice Bd2 (D.length - 1) cd) (.slice R 0 cR) ∧ SlB B w' (.slice Bd2 (D.length - 1) cd) (D.drop 1) ∧ SlB B w' (.slice Bd 1 1) (D.take 1) := by
  obtain ⟨m, hmm⟩ : ∃ m, D.length = m := ⟨_, rfl⟩
  have HM := Lib.hid hmm
  rw [hmm] at hp hd h1 ⊢
  have hgl := hp.lt
  have hg := (World.grownBy_alloc w (.cells #[.slice none 0 0, .slice none 0 0] 85) none).trans (World.grownBy_alloc _ (.cells #[.slice none 0 0, .slice none 0 0] 85) none)
  have hp0 := hp.grown hg (by simp)
  have hpp := Pr.new (w.alloc (.cells #[.slice none 0 0, .slice none 0 0] 85)) 85 (.slice none 0 0) (.slice none 0 0)
  rw [World.size_alloc] at hpp
  have hpz := (Pr.new w 85 (.slice none 0 0) (.slice none 0 0)).alloc (.cells #[.slice none 0 0, .slice none 0 0] 85)
  have hlow0 := LowK.of (B := B) hg (by simp)
  have hkp0 := KpX.of (g := g) (gR := g) (base := w.heap.size) hg (by simp) (Nat.le_refl _)
  have HKP := Lib.hid hkp0
  have hdl := hd.low hlow0
  obtain ⟨_, hmc, hI, hnil⟩ := hdl.ints
  have HDL := Lib.hid hdl
  have HTA := Lib.hid (take_any g 1 m cB Bd D (.slice R 0 cR) _ hp0 hI hmm hnil h1 (by omega) (fun a ha => by
    obtain ⟨A', c', hv, _, _, h3⟩ := HDL.out
    cases hv
    obtain ⟨b, off, rfl, _⟩ := h3 a ha
    rfl))
  have p1 := hp0.c1
  have HLO := Lib.hid hlow0
  have HPP := Lib.hid (And.intro hpp (And.intro hpz hp0))
  clear hp hd hp0 hpp hpz hlow0 hkp0 hdl hI hnil hmm hg hmc
  go_enter Try.func112, Try.ntmps112
  go_wp2_with fail
  generalize (w.alloc (.cells #[.slice none 0 0, .slice none 0 0] 85)).alloc (.cells #[.slice none 0 0, .slice none 0 0] 85) = u0 at p1 HTA HLO HKP HPP HDL ⊢
  go_loopw [4, 13] (fun kk i wr => kk = .int .i64 1 ∧ i = .int .i64 0 ∧ wr = u0) (fun _ _ _ => 0)
  case atStart => exact ⟨rfl, rfl, rfl⟩
  case round =>
    obtain ⟨rfl, rfl, rfl⟩ := hrel
    go_wp2_with fail
    refine HTA.out.mono ?_
    rintro e w9 ⟨rfl, hg9, A', c', hp9, hcase⟩
    obtain ⟨hpp, hpz, hp0⟩ := HPP.out
    have pp9 := hpp.grown hg9 (by simp; omega)
    have pz9 := hpz.grown hg9 (by simp; omega)
    have q0 := pp9.c0
    have f0 := pp9.f 0
    have hgs := gr_set w9 (w.heap.size + 1) 0 (.slice Bd 1 1)
    have pz10 := pz9.grown hgs (by simp)
    have pp10 := pp9.set0 (.slice Bd 1 1)
    have HH := Lib.hid (And.intro hg9 (And.intro hp9 (And.intro pz10 (And.intro hgs hcase))))
    have q2 := pp10.c0
    have q3 := pp10.c1
    have z0 := pz10.c0
    have z1 := pz10.c1
    have zf0 := pz10.f 0
    have zf1 := pz10.f 1
    clear hg9 hp9 pp9 pz9 hgs pz10 pp10 hcase hpp hpz hp0 HTA p1
    go_wp2_with fail
    obtain ⟨hg9, hp9, pz10, hgs, hcase⟩ := HH.out
    have T1 := (pz10.set0 (.slice Bd 1 1)).set1 (.slice none 0 0)
    have r0 := T1.c0
    have r1 := T1.c1
    refine bodyPost_ret (v := .agg #[.slice Bd 1 1, .slice none 0 0]) (by simp [results, Try.results112, go_sem, r0, r1]) rfl ?_
    have hgz := (gr_set (w9.setCell ⟨w.heap.size + 1, 0, none⟩ (.slice Bd 1 1)) w.heap.size 0 (.slice Bd 1 1)).trans (gr_set ((w9.setCell ⟨w.heap.size + 1, 0, none⟩ (.slice Bd 1 1)).setCell ⟨w.heap.size, 0, none⟩ (.slice Bd 1 1)) w.heap.size 1 (.slice none 0 0))
    have hlow := ((LowK.of (B := B) hg9 (fun q hq => by cases hq; exact hB)).trans (LowK.of (B := B) hgs (fun q hq => by cases hq; omega))).trans (LowK.of (B := B) hgz (fun q hq => by cases hq; omega))
    have hszo := HLO.out.1
    have hkp := ((KpX.of (g := g) (gR := g) (base := w.heap.size) hg9 (fun q hq => by cases hq; exact .inl rfl) hszo).trans (KpX.of hgs (fun q hq => by cases hq; right; right; omega) (Nat.le_trans hszo hg9.size))).trans (KpX.of hgz (fun q hq => by cases hq; right; right; omega) (Nat.le_trans hszo (Nat.le_trans hg9.size hgs.size)))
    have pgW := (hp9.grown hgs (by simp; omega)).grown hgz (by simp; omega)
    have hDW := HDL.out.low hlow
    refine ⟨A', c', rfl, HLO.out.trans hlow, HKP.out.trans hkp, pgW, ?_, hDW.front (by have := HM.out; omega)⟩
    rcases hcase with ⟨b, off, rfl, rfl, rfl⟩ | ⟨rfl, rfl, h0⟩
    · exact hDW.rest (by have := HM.out; omega)
    · rw [h0]
      refine SlB.none (List.eq_nil_of_length_eq_zero (by rw [List.length_drop]; have := HM.out; omega)) (fun a ha => ?_)
      obtain ⟨A2, c2, hv, _, _, h3⟩ := hDW
      cases hv
      obtain ⟨b, off, h4, h5, h6, _⟩ := h3 a ha
      exact ⟨b, off, h4, h5, h6⟩
end

/- PartT -/
section

theorem flat_len {d : Nat} : ∀ (ts : List (T (d + 1))), ((ts.flatMap prt).length : Int) = sumI (ts.map fun t => ((prt t).length : Int))
  | [] => rfl
  | t :: ts => by
    have := flat_len ts
    simp only [List.flatMap_cons, List.length_append, List.map_cons, sumI]
    omega
theorem flat_take {d : Nat} (ts : List (T (d + 1))) (c : Nat) : (ts.flatMap prt).take ((ts.take c).flatMap prt).length = (ts.take c).flatMap prt ∧ (ts.flatMap prt).drop ((ts.take c).flatMap prt).length = (ts.drop c).flatMap prt := by
  have e : ts.flatMap prt = (ts.take c).flatMap prt ++ (ts.drop c).flatMap prt := by rw [← List.flatMap_append, List.take_append_drop]
  rw [e]
  exact ⟨List.take_left' rfl, List.drop_left' rfl⟩
theorem cut_arr : ∀ (d c : Nat) (ts : List (T d)), c ≤ ts.length → cutP c (lv d ts) = lv d (ts.take c) ∧ cutR c (lv d ts) = lv d (ts.drop c) ∧ cntE c (lv d ts) = (dat d (ts.take c)).length
  | 0, c, ts, h => by
    refine ⟨rfl, rfl, ?_⟩
    have h2 : c ≤ (show List Nat from ts).length := h
    show c = ((List.take c (show List Nat from ts)).map fun n : Nat => (n : Int)).length
    rw [List.length_map, List.length_take]
    omega
  | d + 1, c, ts, h => by
    have hs : (sumI ((ts.map fun t => ((prt t).length : Int)).take c)).toNat = ((ts.take c).flatMap prt).length := by
      rw [← List.map_take, ← flat_len]
      omega
    have hle : ((ts.take c).flatMap prt).length ≤ (ts.flatMap prt).length := by
      have e : ts.flatMap prt = (ts.take c).flatMap prt ++ (ts.drop c).flatMap prt := by rw [← List.flatMap_append, List.take_append_drop]
      rw [e, List.length_append]
      omega
    obtain ⟨i1, i2, i3⟩ := cut_arr d _ (ts.flatMap prt) hle
    obtain ⟨f1, f2⟩ := flat_take ts c
    rw [f1] at i1 i3
    rw [f2] at i2
    refine ⟨?_, ?_, ?_⟩
    · simp only [lv, cutP, hs, i1, List.map_take]
    · simp only [lv, cutR, hs, i2, List.map_drop]
    · simp only [lv, cntE, hs, i3, dat]
theorem cut_dat (d c : Nat) (ts : List (T d)) : (dat d ts).take (dat d (ts.take c)).length = dat d (ts.take c) ∧ (dat d ts).drop (dat d (ts.take c)).length = dat d (ts.drop c) := by
  have e : dat d ts = dat d (ts.take c) ++ dat d (ts.drop c) := by rw [← dat_append, List.take_append_drop]
  rw [e]
  exact ⟨List.take_left' rfl, List.drop_left' rfl⟩

/-- The arrays' levels and numbers, cut off one by one. -/
def innI : Nat → List (List Int) → List Int → List (List (List Int) × List Int)
  | 0, _, _ => []
  | n + 1, LL, D => (cutP 1 LL, D.take (cntE 1 LL)) :: innI n (cutR 1 LL) (D.drop (cntE 1 LL))
theorem innI_arr {d : Nat} : ∀ (ts : List (T d)), innI ts.length (lv d ts) (dat d ts) = ts.map fun t => (lv d [t], dat d [t])
  | [] => rfl
  | t :: ts => by
    obtain ⟨h1, h2, h3⟩ := cut_arr d 1 (t :: ts) (by simp)
    obtain ⟨h4, h5⟩ := cut_dat d 1 (t :: ts)
    rw [List.length_cons, innI, h1, h2, h3, h4, h5, List.map_cons]
    have := innI_arr ts
    simpa using this
theorem innI_len : ∀ (n : Nat) (LL : List (List Int)) (D : List Int), (innI n LL D).length = n
  | 0, _, _ => rfl
  | n + 1, LL, D => by simp [innI, innI_len n]

theorem fold_lv : ∀ (d c : Nat) (LL : List (List Int)) (D : List Int), LL.length = d → Fits c LL D → lv d (foldN d LL D) = LL ∧ dat d (foldN d LL D) = D
  | 0, c, LL, D, h, hf => by
    obtain rfl := List.eq_nil_of_length_eq_zero h
    refine ⟨rfl, ?_⟩
    show ((show List Nat from (D.map Int.toNat : List Nat)).map fun n : Nat => (n : Int)) = D
    rw [List.map_map]
    refine (List.map_congr_left (fun z hz => ?_)).trans (List.map_id _)
    obtain ⟨j, hj⟩ := List.getElem?_of_mem hz
    have := okN_at hj hf.2
    show ((z.toNat : Nat) : Int) = z
    omega
  | d + 1, c, [], D, h, _ => by simp at h
  | d + 1, c, L :: LL, D, h, hf => by
    have hl := foldN_len d _ LL D (by simpa using h) hf.2.2
    obtain ⟨h1, h2⟩ := fold_lv d _ LL D (by simpa using h) hf.2.2
    have hfl : (foldN (d + 1) (L :: LL) D).flatMap prt = foldN d LL D := by
      have : (foldN (d + 1) (L :: LL) D).flatMap prt = (cutBy L (foldN d LL D)).flatten := by
        show (cutBy L (foldN d LL D)).flatMap (fun t => t) = _
        simp [List.flatMap]
      rw [this, cutBy_flat L _ hf.2.1 hl]
    have hle : (foldN (d + 1) (L :: LL) D).map (fun t => ((prt t).length : Int)) = L := cutBy_lens L (foldN d LL D) hf.2.1 hl
    exact ⟨by rw [lv, hfl, h1, hle], by rw [dat, hfl, h2]⟩
end

/- TakeP -/
section
open Go.RowKit

theorem lv_fit : ∀ (d c : Nat) (ts : List (T d)), c ≤ ts.length → ∀ (j : Nat) (L : List Int), (lv d ts)[j]? = some L → cntE c ((lv d ts).take j) ≤ L.length
  | 0, _, _, _, _, _, h => by simp [lv] at h
  | d + 1, c, ts, hc, 0, L, h => by
    simp only [lv, List.getElem?_cons_zero, Option.some.injEq] at h
    subst h
    simpa [cntE] using hc
  | d + 1, c, ts, hc, j + 1, L, h => by
    simp only [lv, List.getElem?_cons_succ] at h
    have hs : (sumI ((ts.map fun t => ((prt t).length : Int)).take c)).toNat = ((ts.take c).flatMap prt).length := by
      rw [← List.map_take, ← flat_len]
      omega
    have hle : ((ts.take c).flatMap prt).length ≤ (ts.flatMap prt).length := by
      have e : ts.flatMap prt = (ts.take c).flatMap prt ++ (ts.drop c).flatMap prt := by rw [← List.flatMap_append, List.take_append_drop]
      rw [e, List.length_append]
      omega
    have := lv_fit d _ (ts.flatMap prt) hle j L h
    simp only [lv, List.take_succ_cons, cntE, hs]
    exact this
/-- Levels in bounds. -/
def OkL (LL : List (List Int)) : Prop := ∀ (j : Nat) (L : List Int), LL[j]? = some L → okN 400 L = true ∧ L.length ≤ 1048576
theorem okl_tail {d : Nat} {t : T d} {ts : List (T d)} (h : OkL (lv d (t :: ts))) : OkL (lv d ts) := fun j L hL => by
  have h2 := (cut_arr d 1 (t :: ts) (by simp)).2.1
  simp only [List.drop_succ_cons, List.drop_zero] at h2
  have hj : j < (lv d (t :: ts)).length := by rw [lv_len]; have := (List.getElem?_eq_some_iff.1 hL).1; rw [lv_len] at this; exact this
  obtain ⟨M, hM⟩ : ∃ M, (lv d (t :: ts))[j]? = some M := ⟨_, List.getElem?_eq_getElem hj⟩
  have h3 := cutR_at _ 1 j M hM
  rw [h2, hL] at h3
  simp only [Option.some.injEq] at h3
  obtain ⟨h4, h5⟩ := h j M hM
  subst h3
  exact ⟨okN_drop h4 _, by rw [List.length_drop]; omega⟩

/-- The rest: its box, and the row of its levels. -/
def RestSt (B gr gR d : Nat) (ts : List (T d)) (w : World) : Prop :=
  ∃ Bd cB R cR us, Pr w gr 85 (.slice Bd (dat d ts).length cB) (.slice R d cR) ∧ (d = 0 ∨ R = some ⟨gR, 0, none⟩) ∧ w.ownsRow B 23 1 (.slice R d cR) d us ∧
    (∀ (i : Nat) (L : List Int), (lv d ts)[i]? = some L → ∃ v, us[i]? = some v ∧ SlB B w v L) ∧ SlB B w (.slice Bd (dat d ts).length cB) (dat d ts)
/-- An array that was cut off. -/
def ArF (base B d : Nat) (t : T d) (w : World) (x y : Value) : Prop :=
  SlB B w x (dat d [t]) ∧ ∃ P cP ps, y = .slice P d cP ∧ w.ownsRow base 23 1 y d ps ∧ ∀ (i : Nat) (L : List Int), (lv d [t])[i]? = some L → ∃ v, ps[i]? = some v ∧ SlB B w v L
theorem KpX.low {g gR base B : Nat} {w w' : World} (h : KpX g gR base w w') (h1 : B ≤ g) (h2 : B ≤ gR) (h3 : B ≤ base) : LowK B w w' := ⟨h.size, fun k hk _ => h.block k (by omega) (by omega) (by omega)⟩
theorem ArF.kept {base B d g gR b2 : Nat} {t : T d} {w w' : World} {x y : Value} (h : ArF base B d t w x y) (hk : KpX g gR b2 w w') (h1 : B ≤ g) (h2 : B ≤ gR) (h3 : g < base) (h4 : gR < base) (h5 : w.heap.size ≤ b2) (h6 : B ≤ w.heap.size) : ArF base B d t w' x y := by
  obtain ⟨hx, P, cP, ps, rfl, ho, hp⟩ := h
  have hl := hk.low h1 h2 (Nat.le_trans h6 h5)
  refine ⟨hx.low hl, P, cP, ps, rfl, own_keep ho (fun q hq => ?_), fun i L hL => ?_⟩
  · have := ho.lt q hq
    exact hk.block q (by omega) (by omega) (by omega)
  · obtain ⟨v, hv, hs⟩ := hp i L hL
    exact ⟨v, hv, hs.low hl⟩
theorem ArF.low {base base' B d : Nat} {t : T d} {w : World} {x y : Value} (h : ArF base B d t w x y) (hb : base' ≤ base) : ArF base' B d t w x y := by
  obtain ⟨hx, P, cP, ps, hy, ho, hp⟩ := h
  exact ⟨hx, P, cP, ps, hy, own_base ho hb, hp⟩

set_option maxRecDepth 10000 in
theorem takeP_any (B gr gR d : Nat) (t : T d) (ts : List (T d)) (w : World) (h : RestSt B gr gR d (t :: ts) w) (hB : B ≤ gr) (hok : OkL (lv d (t :: ts))) (hd : d ≤ 3) (hgR : d = 0 → gR = gr) :
    Calls Try.prog 112 #[.pointer (some ⟨gr, 0, none⟩)] w fun e w' => ∃ x y, e = .returned (.agg #[x, y]) ∧ KpX gr gR w.heap.size w w' ∧ RestSt B gr gR d ts w' ∧ ArF w.heap.size B d t w' x y := by
  obtain ⟨Bd, cB, R, cR, us, hp, hR, ho, hus, hsd⟩ := h
  obtain ⟨e1, e2, e3⟩ := cut_arr d 1 (t :: ts) (by simp)
  obtain ⟨e4, e5⟩ := cut_dat d 1 (t :: ts)
  simp only [List.take_succ_cons, List.take_zero, List.drop_succ_cons, List.drop_zero] at e1 e2 e3 e4 e5
  have hsum : (dat d (t :: ts)).length = (dat d [t]).length + (dat d ts).length := by
    have : t :: ts = [t] ++ ts := rfl
    rw [this, dat_append, List.length_append]
  cases d with
  | zero =>
    have hgg : gr = gR := (hgR rfl).symm
    subst hgg
    have h1 : (dat 0 [t]).length = 1 := rfl
    refine (takepart_none B gr cB cR Bd R (dat 0 (t :: ts)) w hp hsd hB (by omega)).mono ?_
    rintro e w' ⟨Bd2, cd, rfl, hlow, hkp, hp2, hd2, ht2⟩
    rw [h1] at e4 e5
    rw [e5] at hd2
    rw [e4] at ht2
    rw [show (dat 0 (t :: ts)).length - 1 = (dat 0 ts).length by omega] at hp2 hd2
    refine ⟨_, _, rfl, hkp, ⟨Bd2, cd, R, cR, us, hp2, .inl rfl, ?_, fun i L hL => by simp [lv] at hL, hd2⟩, ht2, none, 0, [], rfl, World.ownsRow_nil _ _ _ _, fun i L hL => by simp [lv] at hL⟩
    refine own_keep ho (fun q hq => ?_)
    have hq2 := ho.lt q hq
    by_cases hqg : q = gr
    · exfalso
      subst hqg
      rcases ho.2 with ⟨hv, _⟩ | ⟨b, cap, cur, hv, _, hb, _⟩
      · cases hv; cases hq
      · cases hv
        simp only [Value.ownBlock, Option.some.injEq] at hq
        subst hq
        unfold Pr at hp
        rw [hb] at hp
        cases hp
    · exact hkp.block q hqg hqg hq2.2
  | succ d =>
    obtain rfl : R = some ⟨gR, 0, none⟩ := by
      rcases hR with h | h
      · omega
      · exact h
    have hll := lv_len (d + 1) (t :: ts)
    have hll2 := lv_len (d + 1) ts
    have hll3 := lv_len (d + 1) [t]
    have hp' : Pr w gr 85 (.slice Bd (dat (d + 1) (t :: ts)).length cB) (.slice (some ⟨gR, 0, none⟩) (lv (d + 1) (t :: ts)).length cR) := by rw [hll]; exact hp
    have ho' : w.ownsRow B 23 1 (.slice (some ⟨gR, 0, none⟩) (lv (d + 1) (t :: ts)).length cR) (lv (d + 1) (t :: ts)).length us := by rw [hll]; exact ho
    refine (takepart_some B gr gR cB cR Bd us (lv (d + 1) (t :: ts)) (dat (d + 1) (t :: ts)) w hp' ho' hus hsd hB (fun j L hL => ⟨lv_fit (d + 1) 1 (t :: ts) (by simp) j L hL, hok j L hL⟩) (by rw [e3]; omega) (by rw [hll]; omega)).mono ?_
    rintro e w' ⟨Bd3, Bd2, cd, P, cP, us2, ps, rfl, hlow, hkp, hp2, ho2, hus2, hd2, hoP, hps, ht2⟩
    rw [hll] at hp2 ho2 hoP ⊢
    rw [e3] at hp2 hd2 ht2 ⊢
    rw [e5] at hd2
    rw [e4] at ht2
    rw [show (dat (d + 1) (t :: ts)).length - (dat (d + 1) [t]).length = (dat (d + 1) ts).length by omega] at hp2 hd2
    refine ⟨_, _, rfl, hkp, ⟨Bd2, cd, _, cR, us2, hp2, .inr rfl, ho2, fun i L hL => ?_, hd2⟩, ht2, P, cP, ps, rfl, hoP, fun i L hL => ?_⟩
    · obtain ⟨M, hM⟩ : ∃ M, (lv (d + 1) (t :: ts))[i]? = some M := ⟨_, List.getElem?_eq_getElem (by rw [hll]; have := (List.getElem?_eq_some_iff.1 hL).1; rw [hll2] at this; exact this)⟩
      have h3 := cutR_at _ 1 i M hM
      rw [e2, hL] at h3
      simp only [Option.some.injEq] at h3
      subst h3
      exact hus2 i M hM
    · obtain ⟨M, hM⟩ : ∃ M, (lv (d + 1) (t :: ts))[i]? = some M := ⟨_, List.getElem?_eq_getElem (by rw [hll]; have := (List.getElem?_eq_some_iff.1 hL).1; rw [hll3] at this; exact this)⟩
      have h3 := cutP_at _ 1 i M hM
      rw [e1, hL] at h3
      simp only [Option.some.injEq] at h3
      subst h3
      exact hps i M hM
end

/- Arrs -/
section
open Go.RowKit

theorem infoF : (Try.prog.info? 85).map (fun i => (i.zero, i.size, i.bytes)) = some (some (.agg #[.slice none 0 0, .slice none 0 0]), 2, 48) := by kernel_rfl

/-- Levels that lie below block B. -/
def LvB (B : Nat) (w : World) (d : Nat) (ts : List (T d)) (R : Option Addr) (cR : Nat) : Prop :=
  (R = none ∧ cR = 0 ∧ d = 0) ∨ ∃ (b off : Nat) (vs : List Value), R = some ⟨b, off, none⟩ ∧ b < w.heap.size ∧ vs.length = d ∧ (∀ (j : Nat) (v : Value), vs[j]? = some v → w.cell? ⟨b, off + j, none⟩ = some v) ∧ ∀ (i : Nat) (L : List Int), (lv d ts)[i]? = some L → ∃ v, vs[i]? = some v ∧ SlB B w v L
theorem slb_up {B B' : Nat} {w : World} {v : Value} {zs : List Int} (h : SlB B w v zs) (hb : B ≤ B') : SlB B' w v zs := by
  obtain ⟨A, c, rfl, h1, h2, h3⟩ := h
  refine ⟨A, c, rfl, h1, h2, fun a ha => ?_⟩
  obtain ⟨b, off, h4, h5, h6⟩ := h3 a ha
  exact ⟨b, off, h4, by omega, h6⟩
theorem slb_gr {B : Nat} {w w' : World} {v : Value} {zs : List Int} (h : SlB B w v zs) (hg : w.grownBy w' none) : SlB B w' v zs := h.low (LowK.of hg (by simp))
theorem lvb_gr {B : Nat} {w w' : World} {d : Nat} {ts : List (T d)} {R : Option Addr} {cR : Nat} (h : LvB B w d ts R cR) (hg : w.grownBy w' none) : LvB B w' d ts R cR := by
  rcases h with h | ⟨b, off, vs, hR, hb, hl, hc, hs⟩
  · exact .inl h
  · exact .inr ⟨b, off, vs, hR, Nat.lt_of_lt_of_le hb hg.size, hl, fun j v hj => hg.cell (hc j v hj) (by simp), fun i L hL => by
      obtain ⟨v, hv, hv2⟩ := hs i L hL
      exact ⟨v, hv, slb_gr hv2 hg⟩⟩
theorem clone3_any (B d : Nat) (ts : List (T d)) (R : Option Addr) (cR : Nat) (w : World) (h : LvB B w d ts R cR) (hd : d ≤ 3) :
    Calls Try.prog 111 #[.slice R d cR] w fun e w' => ∃ A c', e = .returned (.slice A d c') ∧ w.grownBy w' none ∧ ∃ us, w'.ownsRow w.heap.size 23 1 (.slice A d c') d us ∧ ∀ (i : Nat) (L : List Int), (lv d ts)[i]? = some L → ∃ v, us[i]? = some v ∧ SlB B w' v L := by
  rcases h with ⟨rfl, rfl, rfl⟩ | ⟨b, off, vs, rfl, hb, hl, hc, hs⟩
  · refine (clone2_nil w).mono ?_
    rintro e w' ⟨rfl, rfl⟩
    exact ⟨none, 0, rfl, gr_refl _ _, [], World.ownsRow_nil _ _ _ _, fun i L hL => by simp [lv] at hL⟩
  · have hone : ∀ v ∈ vs, v.oneCell' = true := fun v hv => by
      obtain ⟨i, hi⟩ := List.getElem?_of_mem hv
      have hil : i < (lv d ts).length := by rw [lv_len]; have := (List.getElem?_eq_some_iff.1 hi).1; omega
      obtain ⟨v', hv', A, c, rfl, _⟩ := hs i _ (List.getElem?_eq_getElem hil)
      rw [hi] at hv'
      cases hv'
      rfl
    have := clone2_some b off cR vs w hc hone (by omega)
    rw [hl] at this
    refine this.mono ?_
    rintro e w' ⟨A, c', rfl, hg, ho⟩
    exact ⟨A, c', rfl, hg, vs, ho, fun i L hL => by
      obtain ⟨v, hv, hv2⟩ := hs i L hL
      exact ⟨v, hv, slb_gr hv2 hg⟩⟩

theorem gr_drew1 (w : World) : w.grownBy w.drew none := ⟨rfl, rfl, rfl, Nat.le_refl _, fun _ _ _ => rfl⟩
/-- The arrays in a row of structs. -/
def ArrsAt (base B d : Nat) (ts : List (T d)) (j : Nat) (w : World) (ga c : Nat) : Prop :=
  ∃ cur : Array Value, w.heap[ga]? = some (.cells cur 85 (0, 0)) ∧ cur.size = c * 2 ∧ ∀ (k : Nat) (t : T d), k < j → ts[k]? = some t → ∃ x y, cur[k * 2]? = some x ∧ cur[k * 2 + 1]? = some y ∧ ArF base B d t w x y

theorem arf_at {base B d g : Nat} {t : T d} {w w' : World} {x y : Value} (h : ArF base B d t w x y) (hg : w.grownBy w' (some g)) (h1 : B ≤ g) (h2 : g < base) : ArF base B d t w' x y := by
  obtain ⟨hx, P, cP, ps, rfl, ho, hp⟩ := h
  have hl : LowK B w w' := LowK.of hg (fun k e => by cases e; exact h1)
  refine ⟨hx.low hl, P, cP, ps, rfl, own_keep ho (fun q hq => ?_), fun i L hL => ?_⟩
  · have := ho.lt q hq
    exact hg.block q this.2 (fun e => by cases e; omega)
  · obtain ⟨v, hv, hs⟩ := hp i L hL
    exact ⟨v, hv, hs.low hl⟩
theorem restst_new {B gr gR d : Nat} {ts : List (T d)} {w w' : World} (h : RestSt B gr gR d ts w) (hg : w.grownBy w' none) : RestSt B gr gR d ts w' := by
  obtain ⟨Bd, cB, R, cR, us, hp, hR, ho, hus, hsd⟩ := h
  exact ⟨Bd, cB, R, cR, us, hp.grown hg (by simp), hR, own_keep ho (fun q hq => hg.block q (ho.lt q hq).2 (by simp)), fun i L hL => by
    obtain ⟨v, hv, hs⟩ := hus i L hL
    exact ⟨v, hv, slb_gr hs hg⟩, slb_gr hsd hg⟩
theorem restst_at {B gr gR d ga : Nat} {ts : List (T d)} {w w' : World} {cur : Array Value} (h : RestSt B gr gR d ts w) (hg : w.grownBy w' (some ga)) (hc : w.heap[ga]? = some (.cells cur 85 (0, 0))) (h1 : gr ≠ ga) (h2 : B ≤ ga) : RestSt B gr gR d ts w' := by
  obtain ⟨Bd, cB, R, cR, us, hp, hR, ho, hus, hsd⟩ := h
  have hl : LowK B w w' := LowK.of hg (fun k e => by cases e; exact h2)
  refine ⟨Bd, cB, R, cR, us, hp.grown hg (by simpa using h1), hR, own_keep ho (fun q hq => hg.block q (ho.lt q hq).2 (fun e => ?_)), fun i L hL => by
    obtain ⟨v, hv, hs⟩ := hus i L hL
    exact ⟨v, hv, hs.low hl⟩, hsd.low hl⟩
  cases e
  rcases ho.2 with ⟨hv, _⟩ | ⟨b, cap, cur2, hv, _, hb, _⟩
  · cases hv; cases hq
  · cases hv
    simp only [Value.ownBlock, Option.some.injEq] at hq
    subst hq
    rw [hc] at hb
    cases hb
theorem okl_drop {d : Nat} : ∀ (j : Nat) (ts : List (T d)), OkL (lv d ts) → OkL (lv d (ts.drop j))
  | 0, _, h => h
  | _ + 1, [], h => h
  | j + 1, _ :: ts, h => okl_drop j ts (okl_tail h)
theorem ArrsAt.start (base B d : Nat) (ts : List (T d)) (w : World) (n : Nat) : ArrsAt base B d ts 0 (w.alloc (.cells (madeCells #[.slice none 0 0, .slice none 0 0] (n * 2)) 85)) w.heap.size n :=
  ⟨_, heap_alloc_new w _, by simp [madeCells], fun k t hk => by omega⟩
theorem ArrsAt.cell {base B d : Nat} {ts : List (T d)} {j : Nat} {w : World} {ga c : Nat} (h : ArrsAt base B d ts j w ga c) {i : Nat} (hi : i < c * 2) : ∃ v, w.cell? ⟨ga, i, none⟩ = some v ∧ w.frozen? ⟨ga, i, none⟩ = false := by
  obtain ⟨cur, hc, hs, _⟩ := h
  have hx : ∃ v, cur[i]? = some v := ⟨_, Array.getElem?_eq_getElem (by omega)⟩
  obtain ⟨v, hv⟩ := hx
  exact ⟨v, by rw [cell_of_row w ga i _ _ (0, 0) hc]; exact hv, by simp [World.frozen?, hc]⟩
theorem ArrsAt.step {base B d : Nat} {ts : List (T d)} {j : Nat} {w w2 : World} {ga c gr gR : Nat} {t : T d} {x y : Value} (h : ArrsAt base B d ts j w ga c) (hk : KpX gr gR w.heap.size w w2) (ha : ArF w.heap.size B d t w2 x y) (ht : ts[j]? = some t) (hj : j < c)
    (h1 : B ≤ gr) (h2 : B ≤ gR) (h3 : gr < ga) (h4 : gR < ga) (h5 : base = ga + 1) : ArrsAt base B d ts (j + 1) ((w2.setCell ⟨ga, j * 2, none⟩ x).setCell ⟨ga, j * 2 + 1, none⟩ y) ga c := by
  obtain ⟨cur, hc, hs, hk2⟩ := h
  have hlt : ga < w.heap.size := (Array.getElem?_eq_some_iff.1 hc).1
  have hc2 : w2.heap[ga]? = some (.cells cur 85 (0, 0)) := (hk.block ga (by omega) (by omega) hlt).trans hc
  have hgr : w2.grownBy ((w2.setCell ⟨ga, j * 2, none⟩ x).setCell ⟨ga, j * 2 + 1, none⟩ y) (some ga) := (gr_set w2 ga (j * 2) x).trans (gr_set _ ga (j * 2 + 1) y)
  refine ⟨(cur.setIfInBounds (j * 2) x).setIfInBounds (j * 2 + 1) y, by simp [World.setCell, Array.getElem?_modify, hc2], by simp [hs], fun k t' hk' ht' => ?_⟩
  by_cases hkj : k = j
  · subst hkj
    rw [ht] at ht'
    cases ht'
    refine ⟨x, y, ?_, ?_, arf_at (ha.low (by omega)) hgr (by omega) (by omega)⟩
    · rw [Array.getElem?_setIfInBounds_ne (by omega), Array.getElem?_setIfInBounds_self, if_pos (by omega)]
    · rw [Array.getElem?_setIfInBounds_self, if_pos (by simp; omega)]
  · obtain ⟨x', y', hx', hy', ha'⟩ := hk2 k t' (by omega) ht'
    refine ⟨x', y', ?_, ?_, arf_at (ha'.kept hk h1 h2 (by omega) (by omega) (Nat.le_refl _) (by omega)) hgr (by omega) (by omega)⟩
    · rw [Array.getElem?_setIfInBounds_ne (by omega), Array.getElem?_setIfInBounds_ne (by omega)]; exact hx'
    · rw [Array.getElem?_setIfInBounds_ne (by omega), Array.getElem?_setIfInBounds_ne (by omega)]; exact hy'
theorem ArrsAt.low {base base' B d : Nat} {ts : List (T d)} {j : Nat} {w : World} {ga c : Nat} (h : ArrsAt base B d ts j w ga c) (hb : base' ≤ base) : ArrsAt base' B d ts j w ga c := by
  obtain ⟨cur, hc, hs, hk⟩ := h
  exact ⟨cur, hc, hs, fun k t h1 h2 => by
    obtain ⟨x, y, hx, hy, ha⟩ := hk k t h1 h2
    exact ⟨x, y, hx, hy, ha.low hb⟩⟩
theorem kpx_gr {g gR : Nat} {w w1 w2 : World} (h : w.grownBy w1 none) (hk : KpX g gR w1.heap.size w1 w2) (h1 : w.heap.size ≤ g) (h2 : w.heap.size ≤ gR) : w.grownBy w2 none :=
  ⟨hk.os.trans h.os, hk.tape.trans h.tape, hk.output.trans h.output, Nat.le_trans h.size hk.size, fun k hk2 _ => (hk.block k (by omega) (by omega) (Nat.lt_of_lt_of_le hk2 h.size)).trans (h.block k hk2 (by simp))⟩
/-- Where the rest lies when the arrays have been copied. -/
def CutSt (w : World) (d : Nat) (ts : List (T d)) (Bd : Option Addr) (m cB : Nat) (v5 : Value) (wx : World) : Prop :=
  ∃ (gr : Nat) (A : Option Addr) (c' : Nat), v5 = .pointer (some ⟨gr, 0, none⟩) ∧ Hid (w.grownBy wx none) ∧ w.heap.size ≤ gr ∧ Hid (Pr wx gr 85 (.slice Bd m cB) (.slice A d c')) ∧ Hid (∃ us, wx.ownsRow w.heap.size 23 1 (.slice A d c') d us ∧ ∀ (i : Nat) (L : List Int), (lv d ts)[i]? = some L → ∃ v, us[i]? = some v ∧ SlB w.heap.size wx v L)
theorem cutst_a {w w5 : World} {d : Nat} {ts : List (T d)} {Bd A5 : Option Addr} {m cB c5 : Nat} (hg : w.grownBy w5 none) (ho : ∃ us, w5.ownsRow w.heap.size 23 1 (.slice A5 d c5) d us ∧ ∀ (i : Nat) (L : List Int), (lv d ts)[i]? = some L → ∃ v, us[i]? = some v ∧ SlB w.heap.size w5 v L) :
    CutSt w d ts Bd m cB (.pointer (some ⟨w5.heap.size, 0, none⟩)) (w5.alloc (.cells #[.slice Bd m cB, .slice A5 d c5] 85)) := by
  obtain ⟨us, h1, h2⟩ := ho
  have ha := World.grownBy_alloc w5 (.cells #[.slice Bd m cB, .slice A5 d c5] 85) none
  exact ⟨_, A5, c5, rfl, Lib.hid (hg.trans ha), hg.size, Lib.hid (Pr.new _ _ _ _), Lib.hid ⟨us, own_keep h1 (fun q hq => ha.block q (h1.lt q hq).2 (by simp)), fun i L hL => by
    obtain ⟨v, hv, hs⟩ := h2 i L hL
    exact ⟨v, hv, slb_gr hs ha⟩⟩⟩
theorem cutst_b {w w5 : World} {d g : Nat} {ts : List (T d)} {Bd A5 : Option Addr} {m cB c5 : Nat} (hg : w.grownBy w5 none) (hgg : w.heap.size ≤ g) (hp : Pr w5 g 85 (.slice none 0 0) (.slice none 0 0)) (ho : ∃ us, w5.ownsRow (g + 1) 23 1 (.slice A5 d c5) d us ∧ ∀ (i : Nat) (L : List Int), (lv d ts)[i]? = some L → ∃ v, us[i]? = some v ∧ SlB w.heap.size w5 v L) :
    CutSt w d ts Bd m cB (.pointer (some ⟨g, 0, none⟩)) ((w5.setCell ⟨g, 0, none⟩ (.slice Bd m cB)).setCell ⟨g, 1, none⟩ (.slice A5 d c5)) := by
  obtain ⟨us, h1, h2⟩ := ho
  have ha := (gr_set w5 g 0 (.slice Bd m cB)).trans (gr_set _ g 1 (.slice A5 d c5))
  refine ⟨_, A5, c5, rfl, Lib.hid (gr_ownF hg ha (fun k e => by cases e; exact hgg)), hgg, Lib.hid ((hp.set0 _).set1 _), Lib.hid ⟨us, own_base (own_keep h1 (fun q hq => ha.block q (h1.lt q hq).2 (fun e => ?_))) (by omega), fun i L hL => ?_⟩⟩
  · cases e
    have := (h1.lt _ hq).1
    omega
  · obtain ⟨v, hv, hs⟩ := h2 i L hL
    exact ⟨v, hv, hs.low (LowK.of ha (fun k e => by cases e; exact hgg))⟩

set_option maxRecDepth 100000 in
set_option maxHeartbeats 4000000 in
theorem arrays_any (d : Nat) (ts : List (T d)) (Bd R : Option Addr) (cB cR : Nat) (w : World) (hd : d ≤ 3) (hsd : SlB w.heap.size w (.slice Bd (dat d ts).length cB) (dat d ts)) (hlv : LvB w.heap.size w d ts R cR) (hok : OkL (lv d ts)) (hn : ts.length ≤ 1048576) :
    Calls Try.prog 77 #[.agg #[.slice Bd (dat d ts).length cB, .slice R d cR], .int .i64 (ts.length : Int)] w fun e w' => ∃ ga, e = .returned (.slice (some ⟨ga, 0, none⟩) ts.length ts.length) ∧ w.grownBy w' none ∧ w.heap.size ≤ ga ∧ ArrsAt w.heap.size w.heap.size d ts ts.length w' ga ts.length := by
  obtain ⟨i0, hi0, hz0, hz1, hz2⟩ : ∃ i : TypeInfo, Try.prog.info? 85 = some i ∧ i.zero = some (.agg #[.slice none 0 0, .slice none 0 0]) ∧ i.size = 2 ∧ i.bytes = 48 := by
    obtain ⟨i, hi, hzz⟩ := Option.map_eq_some_iff.1 infoF
    simp only [Prod.mk.injEq] at hzz
    exact ⟨i, hi, hzz.1, hzz.2.1, hzz.2.2⟩
  obtain ⟨m, hm⟩ : ∃ m, (dat d ts).length = m := ⟨_, rfl⟩
  obtain ⟨n, hnn⟩ : ∃ n, ts.length = n := ⟨_, rfl⟩
  have HM := Lib.hid hm
  have HN := Lib.hid hnn
  rw [hm] at hsd ⊢
  rw [hnn] at hn ⊢
  have hmk : ∀ u : World, (Instr.makeSlice 91 (.int .i64 (n : Int)) (.int .i64 (n : Int))).run Try.prog u =
      .ok (.slice (some ⟨u.heap.size, 0, none⟩) n n) (u.alloc (.cells (madeCells #[.slice none 0 0, .slice none 0 0] (n * 2)) 85)) := fun u => by
    have h := run_make (P := Try.prog) u 91 85 i0 (.agg #[.slice none 0 0, .slice none 0 0]) Try.underlying91 hi0 hz0 .i64 .i64 (n : Int) (n : Int) (by omega) (Int.le_refl _) (by rw [hz2]; omega) (by omega)
    simpa [hz1, Value.cells] using h
  have hg0 := World.grownBy_alloc w (.cells #[.slice Bd m cB, .slice R d cR] 85) none
  have HCL := Lib.hid (fun u (hg : w.grownBy u none) => clone3_any w.heap.size d ts R cR u (lvb_gr hlv hg) hd)
  have HSD := Lib.hid (fun u (hg : w.grownBy u none) => slb_gr hsd hg)
  have HOK := Lib.hid hok
  have HP := Lib.hid (Pr.new w 85 (.slice Bd m cB) (.slice R d cR))
  have HG0 := Lib.hid hg0
  clear hsd hlv hok hm hnn hg0
  go_enter Try.func77, Try.ntmps77
  go_upto_region 1 with fail
  go_cut [5] from 8 to 13 (CutSt w d ts Bd m cB)
  case first =>
    have c0 := HP.out.c0
    have c1 := HP.out.c1
    obtain ⟨wo, hwo⟩ : ∃ wo, w.alloc (.cells #[.slice Bd m cB, .slice R d cR] 85) = wo := ⟨_, rfl⟩
    rw [hwo] at HP HG0 c0 c1 ⊢
    clear hwo
    have HPA := HP.out.alloc (.cells #[.slice none 0 0, .slice none 0 0] 85)
    have c0a := HPA.c0
    have c1a := HPA.c1
    clear HPA
    go_region_law (first
      | (go_simp
         go_at_call 111
         refine (HCL.out wo.drew (HG0.out.trans (gr_drew1 wo))).mono ?_
         rintro e w5 ⟨A5, c5, rfl, hg5, us5, how5, hsv5⟩
         have HG5 := Lib.hid (HG0.out.trans ((gr_drew1 wo).trans hg5))
         have HO5 := Lib.hid (show ∃ us, w5.ownsRow w.heap.size 23 1 (.slice A5 d c5) d us ∧ ∀ (i : Nat) (L : List Int), (lv d ts)[i]? = some L → ∃ v, us[i]? = some v ∧ SlB w.heap.size w5 v L from ⟨us5, own_base how5 HG0.out.size, hsv5⟩)
         have hp5 := HP.out.grown ((gr_drew1 wo).trans hg5) (by simp)
         have b0 := hp5.c0
         have b1 := hp5.c1
         have b0a := (hp5.alloc (.cells #[.slice none 0 0, .slice none 0 0] 85)).c0
         clear hg5 how5 hsv5 hp5)
      | (go_simp
         go_at_call 111
         have ha := (World.grownBy_alloc wo (.cells #[.slice none 0 0, .slice none 0 0] 85) none).trans (gr_drew1 _)
         refine (HCL.out _ (HG0.out.trans ha)).mono ?_
         rintro e w5 ⟨A5, c5, rfl, hg5, us5, how5, hsv5⟩
         have hp5 : Pr w5 wo.heap.size 85 (.slice none 0 0) (.slice none 0 0) := (Pr.new wo _ _ _).grown ((gr_drew1 _).trans hg5) (by simp)
         have HG5 := Lib.hid (HG0.out.trans (ha.trans hg5))
         have HO5 := Lib.hid (show ∃ us, w5.ownsRow (wo.heap.size + 1) 23 1 (.slice A5 d c5) d us ∧ ∀ (i : Nat) (L : List Int), (lv d ts)[i]? = some L → ∃ v, us[i]? = some v ∧ SlB w.heap.size w5 v L from ⟨us5, own_base how5 (by simp), hsv5⟩)
         have HP5 := Lib.hid hp5
         have b0 := (HP.out.grown (ha.trans hg5) (by simp)).c0
         have p0 := hp5.c0
         have p1 := hp5.c1
         have f0 := hp5.f 0
         have f1 := hp5.f 1
         clear ha hg5 how5 hsv5 hp5))
    all_goals
      go_wp2_with fail
      go_meet
      first | exact cutst_a HG5.out HO5.out | exact cutst_b HG5.out HG0.out.size HP5.out HO5.out
  case rest =>
    obtain ⟨gr, A, c', rfl, hgx, hgr, hpx, hox⟩ := hcut
    obtain ⟨gR, hgR1, hgR2, hgR3, hgR4⟩ : ∃ gR, (d = 0 → gR = gr) ∧ (d = 0 ∨ A = some ⟨gR, 0, none⟩) ∧ w.heap.size ≤ gR ∧ gR < wc.heap.size := by
      have hgl := hpx.out.lt
      by_cases hd0 : d = 0
      · exact ⟨gr, fun _ => rfl, .inl hd0, hgr, hgl⟩
      · obtain ⟨us, ho, _⟩ := hox.out
        have hlt := fun q hq => ho.lt q hq
        rcases ho.2 with ⟨hv, h0⟩ | ⟨b, cap, cur, hv, hb1, hb, _⟩
        · cases hv
          omega
        · cases hv
          have := hlt b rfl
          exact ⟨b, fun h => absurd h hd0, .inr rfl, this.1, this.2⟩
    have HR0 : Hid (RestSt w.heap.size gr gR d ts wc) := Lib.hid (by
      obtain ⟨us, ho, hs⟩ := hox.out
      exact ⟨Bd, cB, A, c', us, by rw [HM.out]; exact hpx.out, hgR2, ho, hs, by rw [HM.out]; exact HSD.out wc hgx.out⟩)
    have hgl := hpx.out.lt
    clear hpx hox HP HG0 HCL
    have ha := World.grownBy_alloc wc (.cells (madeCells #[.slice none 0 0, .slice none 0 0] (n * 2)) 85) none
    have HR1 := Lib.hid (restst_new HR0.out ha)
    have HG1 := Lib.hid (hgx.out.trans ha)
    have HA1 := Lib.hid (ArrsAt.start (wc.heap.size + 1) w.heap.size d ts wc n)
    clear HR0 ha
    go_wp2_with fail
    generalize wc.alloc (.cells (madeCells #[.slice none 0 0, .slice none 0 0] (n * 2)) 85) = w0 at HR1 HG1 HA1 ⊢
    have HTK := Lib.hid (fun (t : T d) (zs : List (T d)) (u : World) (h : RestSt w.heap.size gr gR d (t :: zs) u) (hk : OkL (lv d (t :: zs))) => takeP_any w.heap.size gr gR d t zs u h hgr hk hd hgR1)
    go_loopw [18] (fun i wr => ∃ j : Nat, j ≤ n ∧ i = .int .i64 j ∧ Hid (w.grownBy wr none) ∧ Hid (RestSt w.heap.size gr gR d (ts.drop j) wr) ∧ Hid (ArrsAt (wc.heap.size + 1) w.heap.size d ts j wr wc.heap.size n)) (fun i _ => n - (intOf i).toNat)
    case atStart => exact ⟨0, Nat.zero_le _, rfl, HG1, HR1, HA1⟩
    case round =>
      clear HG1 HR1 HA1
      obtain ⟨j, hj, rfl, hg, hr, har⟩ := hrel
      by_cases hlt : j < n
      · obtain ⟨t, ht⟩ : ∃ t, ts[j]? = some t := ⟨_, List.getElem?_eq_getElem (by have := HN.out; omega)⟩
        have hdrop : ts.drop j = t :: ts.drop (j + 1) := by
          obtain ⟨h1, h2⟩ := List.getElem?_eq_some_iff.1 ht
          rw [List.drop_eq_getElem_cons h1, h2]
        have hr1 := hr.out
        rw [hdrop] at hr1
        have hk1 := okl_drop j ts HOK.out
        rw [hdrop] at hk1
        have HC := Lib.hid (HTK.out t _ _ hr1 hk1)
        have HT := Lib.hid ht
        clear hr1 hk1 hdrop ht
        go_wp2_with fail
        refine HC.out.mono ?_
        rintro e w2 ⟨x, y, rfl, hkp, hr2, haf⟩
        obtain ⟨⟨ax, cx, hxx, _⟩, Py, cPy, _, hyy, _⟩ := id haf
        subst hxx
        subst hyy
        have hgl2 : wc.heap.size < wr.heap.size := by
          obtain ⟨cur, hc, _⟩ := har.out
          exact (Array.getElem?_eq_some_iff.1 hc).1
        obtain ⟨cur, hcur, hcs, hcr⟩ := har.out
        have hcur2 := (hkp.block wc.heap.size (by omega) (by omega) hgl2).trans hcur
        have q1 : ArrsAt (wc.heap.size + 1) w.heap.size d ts 0 w2 wc.heap.size n := ⟨cur, hcur2, hcs, fun k t hk => by omega⟩
        obtain ⟨v1, hv1, hf1⟩ := q1.cell (i := j * 2) (by omega)
        obtain ⟨v2, hv2, hf2⟩ := q1.cell (i := j * 2 + 1) (by omega)
        have HST := Lib.hid (har.out.step hkp haf HT.out hlt hgr hgR3 (by omega) (by omega) rfl)
        have HGG := Lib.hid (kpx_gr hg.out hkp hgr hgR3)
        have HR2 := Lib.hid (restst_at hr2 ((gr_set w2 wc.heap.size (j * 2) (.slice ax (dat d [t]).length cx)).trans (gr_set _ wc.heap.size (j * 2 + 1) (.slice Py d cPy))) hcur2 (by omega) (by omega))
        have hgs := (gr_set w2 wc.heap.size (j * 2) (.slice ax (dat d [t]).length cx)).trans (gr_set _ wc.heap.size (j * 2 + 1) (.slice Py d cPy))
        have HGS := Lib.hid (gr_ownF HGG.out hgs (fun k e => by cases e; omega))
        clear hkp hr2 haf q1 hcur hcr hcur2 hgs
        go_wp2_with fail
        go_roundw
        case rel => exact ⟨j + 1, by omega, by go_num, HGS, HR2, HST⟩
        case measure => simp [intOf]; omega
      · have hjn : j = n := by omega
        subst hjn
        go_wp2_with fail
        go_ret
        exact ⟨wc.heap.size, rfl, hg.out, by omega, har.out.low (by omega)⟩
end

/- Inner -/
section
open Go.RowKit

theorem own_slb {w : World} {base : Nat} {v : Value} {L : List Int} (h : w.ownsRow base 3 1 v L.length (L.map (Value.int .i64))) : SlB w.heap.size w v L := by
  obtain ⟨A, n, c, rfl⟩ := own_form h
  obtain ⟨rfl, h2, h3, h4⟩ := row_reads h
  refine ⟨A, c, rfl, h3, h4, fun a ha => ?_⟩
  subst ha
  have hcell := fun g => h.cells (g := g)
  rcases h.2 with ⟨hv, _⟩ | ⟨g, cap, cur, hv, _, hg, _⟩
  · cases hv
  · cases hv
    refine ⟨g, 0, rfl, (Array.getElem?_eq_some_iff.1 hg).1, (Array.getElem?_eq_some_iff.1 hg).1, fun j z hj => ?_⟩
    have := hcell g rfl j (.int .i64 z) (by rw [List.getElem?_map, hj]; rfl)
    rwa [addr_flat] at this
/-- A layout all of whose rows lie at known places. -/
def LytQ (w : World) (v : Value) (LL : List (List Int)) (D : List Int) : Prop :=
  ∃ (A : Option Addr) (c : Nat) (B : Option Addr) (e : Nat), v = .agg #[.slice A LL.length c, .slice B D.length e] ∧ LL.length ≤ c ∧ SlB w.heap.size w (.slice B D.length e) D ∧
    (0 < LL.length → ∃ (g off : Nat), A = some ⟨g, off, none⟩ ∧ g < w.heap.size ∧ ∀ (i : Nat) (L : List Int), LL[i]? = some L → ∃ x, w.cell? ⟨g, off + i, none⟩ = some x ∧ SlB w.heap.size w x L)
theorem LytQ.grown {w w' : World} {v : Value} {LL : List (List Int)} {D : List Int} (h : LytQ w v LL D) (hg : w.grownBy w' none) : LytQ w' v LL D := by
  obtain ⟨A, c, B, e, rfl, h1, h2, h3⟩ := h
  refine ⟨A, c, B, e, rfl, h1, slb_up (slb_gr h2 hg) hg.size, fun hl => ?_⟩
  obtain ⟨g, off, rfl, hgl, hc⟩ := h3 hl
  refine ⟨g, off, rfl, Nat.lt_of_lt_of_le hgl hg.size, fun i L hL => ?_⟩
  obtain ⟨x, hx, hs⟩ := hc i L hL
  exact ⟨x, hg.cell hx (by simp), slb_up (slb_gr hs hg) hg.size⟩
theorem OwnLytQ.lytq {w : World} {base : Nat} {v : Value} {LL : List (List Int)} {D : List Int} (h : OwnLytQ w base v LL D) : LytQ w v LL D := by
  obtain ⟨A, c, d, vs, rfl, hc, ho, hf⟩ := h
  have hlen : vs.length = LL.length := by have := ho.1; omega
  obtain ⟨d', hd', B, e, hdv, hec, hod⟩ := hf.1 LL.length D (by omega) (by simp)
  rw [List.getElem?_append_right (by omega), hlen] at hd'
  simp only [Nat.sub_self, List.getElem?_cons_zero, Option.some.injEq] at hd'
  subst hd'
  refine ⟨A, c, B, e, by rw [hdv], hc, by rw [← hdv]; exact own_slb (hod trivial), fun hl => ?_⟩
  have hcell := fun g => ho.cells (g := g)
  rcases ho.2 with ⟨hv, hn⟩ | ⟨g, cap, cur, hv, _, hg, hnc, _⟩
  · omega
  · cases hv
    refine ⟨g, 0, rfl, (Array.getElem?_eq_some_iff.1 hg).1, fun i L hL => ?_⟩
    have hi := (List.getElem?_eq_some_iff.1 hL).1
    obtain ⟨v, hv, A2, c2, _, _, ho2⟩ := hf.1 i L (by omega) (by rw [List.getElem?_append_left hi]; exact hL)
    rw [List.getElem?_append_left (by omega)] at hv
    exact ⟨v, by have := hcell g rfl i v hv; rwa [addr_flat] at this, own_slb (ho2 trivial)⟩
theorem SlB.form {B : Nat} {w : World} {v : Value} {zs : List Int} (h : SlB B w v zs) : ∃ A c, v = .slice A zs.length c := by
  obtain ⟨A, c, h, _⟩ := h
  exact ⟨A, c, h⟩

set_option maxRecDepth 100000 in
set_option maxHeartbeats 4000000 in
theorem inner_any (d : Nat) (t : T (d + 1)) (A B : Option Addr) (c e : Nat) (w : World) (hd : d ≤ 3) (h : LytQ w (.agg #[.slice A (d + 1) c, .slice B (dat (d + 1) [t]).length e]) (lv (d + 1) [t]) (dat (d + 1) [t])) (hok : OkL (lv (d + 1) [t])) (hn : (prt t).length ≤ 1048576) :
    Calls Try.prog 83 #[.agg #[.slice B (dat (d + 1) [t]).length e, .slice A (d + 1) c]] w fun ee w' => ∃ b ga, ee = .returned (.slice (some ⟨ga, 0, none⟩) (prt t).length (prt t).length) ∧ w.grownBy w' none ∧ w.heap.size ≤ b ∧ b ≤ ga ∧ ArrsAt b b d (prt t) (prt t).length w' ga (prt t).length := by
  obtain ⟨A', c', B', e', hv, hc, hsd, hlv⟩ := h
  simp only [lv_len, Value.agg.injEq, Array.mk.injEq, List.cons.injEq, Value.slice.injEq, and_true, true_and] at hv
  obtain ⟨⟨rfl, rfl⟩, rfl, rfl⟩ := hv
  rw [lv_len] at hc hlv
  obtain ⟨g, off, rfl, hgl, hcell⟩ := hlv (by omega)
  rw [lv_one] at hcell hok
  rw [dat_one] at hsd ⊢
  obtain ⟨x0, hx0, hs0⟩ := hcell 0 _ rfl
  obtain ⟨A0, c0, rfl, hc0, hn0, ha0⟩ := hs0
  obtain ⟨a0, rfl⟩ : ∃ a, A0 = some a := by
    cases A0 with
    | none => have := hn0 rfl; simp at hc0; omega
    | some a => exact ⟨a, rfl⟩
  obtain ⟨b0, off0, rfl, hb0, _, hz0⟩ := ha0 _ rfl
  have hz := hz0 0 _ rfl
  have hok2 : OkL (lv d (prt t)) := fun j L hL => hok (j + 1) L (by simpa using hL)
  have HLV : ∀ u, w.grownBy u none → LvB u.heap.size u d (prt t) (some ⟨g, off + 1, none⟩) (c - 1) := fun u hg => by
    refine .inr ⟨g, off + 1, (List.range d).map (fun i => (w.cell? ⟨g, off + 1 + i, none⟩).getD (.int .i64 0)), rfl, Nat.lt_of_lt_of_le hgl hg.size, by simp, fun j v hj => ?_, fun i L hL => ?_⟩
    · have hjd : j < d := by have := (List.getElem?_eq_some_iff.1 hj).1; simpa using this
      rw [List.getElem?_map, List.getElem?_range hjd] at hj
      simp only [Option.map_some, Option.some.injEq] at hj
      obtain ⟨M, hM⟩ : ∃ M, (lv d (prt t))[j]? = some M := ⟨_, List.getElem?_eq_getElem (by rw [lv_len]; exact hjd)⟩
      obtain ⟨x, hx, _⟩ := hcell (j + 1) M (by simpa using hM)
      rw [show off + 1 + j = off + (j + 1) by omega, hx] at hj
      simp only [Option.getD_some] at hj
      subst hj
      rw [show off + 1 + j = off + (j + 1) by omega]
      exact hg.cell hx (by simp)
    · have hid : i < d := by have := (List.getElem?_eq_some_iff.1 hL).1; rwa [lv_len] at this
      obtain ⟨x, hx, hs⟩ := hcell (i + 1) L (by simpa using hL)
      refine ⟨x, ?_, slb_up (slb_gr hs hg) hg.size⟩
      rw [List.getElem?_map, List.getElem?_range hid]
      simp only [Option.map_some, Option.some.injEq]
      rw [show off + 1 + i = off + (i + 1) by omega, hx]
      rfl
  obtain ⟨o2, hR, hLV2⟩ : ∃ o2, (if c = 1 then (some ⟨g, off, none⟩ : Option Addr) else some ⟨g, off + 1, none⟩) = some ⟨g, o2, none⟩ ∧ ∀ u, w.grownBy u none → LvB u.heap.size u d (prt t) (some ⟨g, o2, none⟩) (c - 1) := by
    by_cases hc1 : c = 1
    · have hd0 : d = 0 := by omega
      subst hd0
      exact ⟨off, by rw [if_pos hc1], fun u hg => .inr ⟨g, off, [], rfl, Nat.lt_of_lt_of_le hgl hg.size, rfl, fun j v hj => by simp at hj, fun i L hL => by simp [lv] at hL⟩⟩
    · exact ⟨off + 1, by rw [if_neg hc1], HLV⟩
  have HA := Lib.hid (fun u (hg : w.grownBy u none) => arrays_any d (prt t) B (some ⟨g, o2, none⟩) e (c - 1) u hd (slb_up (slb_gr hsd hg) hg.size) (hLV2 u hg) hok2 hn)
  obtain ⟨m, hm⟩ : ∃ m, (dat d (prt t)).length = m := ⟨_, rfl⟩
  obtain ⟨n, hnn⟩ : ∃ n, (prt t).length = n := ⟨_, rfl⟩
  rw [hm, hnn] at HA
  rw [hnn] at hz hn
  rw [hm, hnn]
  simp only [List.length_cons, List.length_nil, Nat.zero_add, Nat.add_zero] at hx0 hz hc0
  have hg0 := World.grownBy_alloc w (.cells #[.slice B m e, .slice (some ⟨g, off, none⟩) (d + 1) c] 85) none
  have HG0 := Lib.hid hg0
  have HP := Lib.hid (Pr.new w 85 (.slice B m e) (.slice (some ⟨g, off, none⟩) (d + 1) c))
  have p0 := HP.out.c0
  have p1 := HP.out.c1
  have q0 := hg0.cell hx0 (by simp)
  have q1 := hg0.cell hz (by simp)
  clear hsd hcell hlv HLV hLV2 hok hok2 hz0 ha0 hx0 hz hg0 hm hnn
  go_enter Try.func83, Try.ntmps83
  go_upto_region 1 with fail
  generalize w.alloc (.cells #[.slice B m e, .slice (some ⟨g, off, none⟩) (d + 1) c] 85) = wo at HG0 HP p0 p1 q0 q1 ⊢
  have i1 : ¬ ((d : Int) + 1 < 1) := by omega
  have i2 : (1 : Int) ≤ (d : Int) + 1 := by omega
  go_region_with (go_at_call 77; refine (HA.out _ (HG0.out.trans (by first | exact gr_refl _ _ | exact gr_drewN wo _ none | exact gr_drew1 wo))).mono ?_; rintro ee w5 ⟨ga, rfl, hg5, hga, har⟩; have hg5w : w.grownBy w5 none := HG0.out.trans (World.grownBy.trans (by first | exact gr_refl _ _ | exact gr_drewN wo _ none | exact gr_drew1 wo) hg5); have HG5 := Lib.hid hg5w; have HA5 := Lib.hid (show ArrsAt wo.heap.size wo.heap.size d (prt t) n w5 ga n from har); have HGA := Lib.hid (show w.heap.size ≤ wo.heap.size ∧ wo.heap.size ≤ ga from ⟨HG0.out.size, hga⟩); clear hg5 hga har hg5w)
  all_goals
    go_wp2_with fail
    go_ret
    exact ⟨_, _, rfl, HG5.out, HGA.out.1, HGA.out.2, HA5.out⟩
end

end Go.Proofs.Ytbideeajdhejoaa
