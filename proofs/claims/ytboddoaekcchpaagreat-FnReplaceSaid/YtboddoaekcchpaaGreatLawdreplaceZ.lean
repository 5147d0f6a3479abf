/- 12 texts in one: SRepS SRepL WithP WithQ WithL TInN TBindA TRepV SRepV RepM DrR Lawdreplace. -/
import Derived.Test.YtboddoaekcchpaaGreatSFree
import Derived.Test.YtboddoaekcchpaaGreatSTNode
import Derived.Test.YtboddoaekcchpaaGreatRTurn
import Derived.Deep.RegionHeld3
import Derived.Test.YtboddoaekcchpaaGreatInPt
import Derived.Test.YtboddoaekcchpaaGreatTFreeL
import Derived.Shelf.Abstract
import Derived.Test.YtboddoaekcchpaaGreatTBind0
import Derived.Test.YtboddoaekcchpaaGreatTBind
import Derived.Test.YtboddoaekcchpaaGreatTText
import Derived.Test.YtboddoaekcchpaaGreatTTerm
import Derived.Test.YtboddoaekcchpaaGreatSTxtA
import Derived.Test.YtboddoaekcchpaaGreatWRA
import Derived.Test.YtboddoaekcchpaaGreatLawKit
import Derived.Test.YtboddoaekcchpaaGreatGdreplace
namespace Go.Proofs.YtboddoaekcchpaaGreat
/- SRepS -/
section
section
open Go.RowKit

abbrev TN : TypeId := 57
theorem gr_some2 {w w' : World} {g : Nat} (h : w.grownBy w' none) : w.grownBy w' (some g) := ⟨h.os, h.tape, h.output, h.size, fun k hk _ => h.block k hk (by simp)⟩
theorem gr_none {w w' : World} {g : Nat} (h : w.grownBy w' (some g)) (hg : w.heap.size ≤ g) : w.grownBy w' none := ⟨h.os, h.tape, h.output, h.size, fun k hk _ => h.block k hk (by simp; omega)⟩
theorem infoNode : (Tryz.prog.info? 57).map (fun i => (i.zero, i.size, i.bytes)) = some (some (.agg #[.int .u8 0, .int .u8 0, .slice none 0 0]), 3, 32) := by kernel_rfl

/-- How it ends. -/
def SRP (t' : Tm) (good : Bool) (S : Nat → Prop) (w : World) (e : Ending) (w' : World) : Prop :=
  ∃ a b A k c, e = .returned (.tuple #[.agg #[.int .u8 a, .int .u8 b, .slice A k c], .bool good]) ∧ w.grownBy w' none ∧ SN w' (fun x => S x ∨ w.heap.size ≤ x) t' (a, b, .slice A k c)

set_option maxRecDepth 100000 in
set_option maxHeartbeats 2000000 in
theorem srep_hit (v ua ub : Int) (sv : Value) (hsv : ∃ A k c, sv = .slice A k c) (UA : Option Addr) (uk uc : Nat) (u : Tm) (S : Nat → Prop) (w : World) (hu : SN w S u (ua, ub, .slice UA uk uc)) :
    Calls Tryz.prog 30 #[.agg #[.int .u8 97, .int .u8 v, sv], .int .u8 v, .agg #[.int .u8 ua, .int .u8 ub, .slice UA uk uc]] w (SRP u true S w) := by
  obtain ⟨A, k, c, rfl⟩ := hsv
  have HU := Lib.hid hu
  obtain ⟨h, hh⟩ : ∃ h, w.heap.size = h := ⟨_, rfl⟩
  obtain ⟨w1, hw1⟩ : ∃ w1, w.alloc (.cells #[.int .u8 97, .int .u8 v, .slice A k c] TN) = w1 := ⟨_, rfl⟩
  have z1 : w1.heap.size = h + 1 := by rw [← hw1, World.size_alloc, hh]
  have k1 : C3 w1 h (.int .u8 97) (.int .u8 v) (.slice A k c) TN := by rw [← hw1, ← hh]; exact c3_new _ _ _ _ _
  have g1 : w.grownBy w1 none := by rw [← hw1]; exact World.grownBy_alloc _ _ _
  obtain ⟨w2, hw2⟩ : ∃ w2, w1.alloc (.cells #[.int .u8 ua, .int .u8 ub, .slice UA uk uc] TN) = w2 := ⟨_, rfl⟩
  have z2 : w2.heap.size = h + 2 := by rw [← hw2, World.size_alloc, z1]
  have k2 : C3 w2 (h + 1) (.int .u8 ua) (.int .u8 ub) (.slice UA uk uc) TN := by rw [← hw2, ← z1]; exact c3_new _ _ _ _ _
  have g2 : w.grownBy w2 none := by rw [← hw2]; exact g1.trans (World.grownBy_alloc _ _ _)
  obtain ⟨w3, hw3⟩ : ∃ w3, w2.alloc (.cells #[.int .u8 0, .int .u8 0, .slice none 0 0] TN) = w3 := ⟨_, rfl⟩
  have k3 : C3 w3 (h + 2) (.int .u8 0) (.int .u8 0) (.slice none 0 0) TN := by rw [← hw3, ← z2]; exact c3_new _ _ _ _ _
  have g3 : w.grownBy w3 none := by rw [← hw3]; exact g2.trans (World.grownBy_alloc _ _ _)
  have k1' : C3 w3 h (.int .u8 97) (.int .u8 v) (.slice A k c) TN := by rw [← hw3, ← hw2]; exact (k1.alloc _).alloc _
  have k2' : C3 w3 (h + 1) (.int .u8 ua) (.int .u8 ub) (.slice UA uk uc) TN := by rw [← hw3]; exact k2.alloc _
  have K3 := Lib.hid k3
  have G3 := Lib.hid g3
  have HH := Lib.hid hh
  have n0 := k1'.c0
  have n1 := k1'.c1
  have u0 := k2'.c0
  have u1 := k2'.c1
  have u2 := k2'.c2
  have r0 := k3.c0
  have r1 := k3.c1
  have r2 := k3.c2
  have f0 := k3.f 0
  have f1 := k3.f 1
  have f2 := k3.f 2
  clear hu k1 k2 k3 k1' k2' g1 g2 g3
  go_enter Tryz.func30, Tryz.ntmps30
  go_wp2_with fail
  have HL := Lib.hid (K3.out.laid (x' := .int .u8 ua) (y' := .int .u8 ub) (z' := .slice UA uk uc))
  have HG : Hid (w.grownBy (laid3 w3 (h + 2) (.int .u8 ua) (.int .u8 ub) (.slice UA uk uc)) none) := Lib.hid (gr_none (gr_laid3 (g := h + 2) (gr_some2 G3.out) (by have := HH.out; omega) _ _ _) (by have := HH.out; omega))
  clear n0 n1 u0 u1 u2 r0 r1 r2 f0 f1 f2
  have n0 := HL.out.c0
  have n1 := HL.out.c1
  have n2 := HL.out.c2
  unfold laid3 at n0 n1 n2
  refine bodyPost_ret (v := .tuple #[.agg #[.int .u8 ua, .int .u8 ub, .slice UA uk uc], .bool true]) (by simp [results, Tryz.results30, go_sem, n0, n1, n2]) rfl ?_
  exact ⟨_, _, _, _, _, rfl, HG.out, HU.out.keep (fun b _ hl => HG.out.block b hl (by simp)) (fun b hb _ => .inl hb) _ _⟩
end

section
open Go.RowKit

/-- The parts after a replacement; whether nothing is bound at each. -/
def repK : Tm → Int → Tm → List Tm
  | .dig _, _, _ => []
  | .var _, _, _ => []
  | .pre _ s, v, u => [s.rep v u]
  | .two _ s t, v, u => [s.rep v u, t.rep v u]
  | .loop _ x s t, v, u => [s.rep v u, if x = v then t else t.rep v u]
def gdL : Tm → Int → Tm → List Bool
  | .dig _, _, _ => []
  | .var _, _, _ => []
  | .pre _ s, v, u => [!s.binds v u]
  | .two _ s t, v, u => [!s.binds v u, !t.binds v u]
  | .loop _ x s t, v, u => [!s.binds v u, !((decide (x ≠ v) && t.free v) && (u.free x || t.binds v u))]
theorem repK_len (t : Tm) (v : Int) (u : Tm) : (repK t v u).length = t.kids.length := by cases t <;> rfl
theorem gdL_len (t : Tm) (v : Int) (u : Tm) : (gdL t v u).length = t.kids.length := by cases t <;> rfl
theorem gdL_all (t : Tm) (v : Int) (u : Tm) : (gdL t v u).all id = !t.binds v u := by
  cases t with
  | dig c => rfl
  | var c => rfl
  | pre c s => simp [gdL, Tm.binds]
  | two c s t => simp [gdL, Tm.binds]
  | loop c x s t => simp only [gdL, Tm.binds, List.all_cons, List.all_nil, id, Bool.and_true, Bool.not_or]
theorem all_step : ∀ {l : List Bool} {j : Nat} {x : Bool}, l[j]? = some x → (l.take (j + 1)).all id = ((l.take j).all id && x)
  | [], _, _, h => by simp at h
  | a :: l, 0, x, h => by simp at h; subst h; simp
  | a :: l, j + 1, x, h => by
    have := all_step (l := l) (j := j) (by simpa using h)
    simp only [List.take_succ_cons, List.all_cons, this, Bool.and_assoc]

/-- A part that stays as it is. -/
theorem rep_stay {w : World} {S : Nat → Prop} {t u : Tm} {a b v : Int} {sv : Value} {j : Nat} {x : Tm} (ho : t.Ok) (h : SN w S t (a, b, sv)) (hv : 0 < v) (hj : t.kids[j]? = some x) (hs : (j = 1 ∧ b = v) ∨ x.free v = false) :
    (repK t v u)[j]? = some x ∧ (gdL t v u)[j]? = some true := by
  cases t with
  | dig c => simp [Tm.kids] at hj
  | var c => simp [Tm.kids] at hj
  | pre c s =>
    match j, hj with
    | 0, hj =>
      simp [Tm.kids] at hj; subst hj
      have hf : s.free v = false := by rcases hs with ⟨h1, _⟩ | h1; omega; exact h1
      simp [repK, gdL, (s.rep_id v u hf).1, (s.rep_id v u hf).2]
    | j + 1, hj => simp [Tm.kids] at hj
  | two c s t =>
    obtain ⟨_, h2, _⟩ := h
    simp only at h2
    subst h2
    match j, hj with
    | 0, hj =>
      simp [Tm.kids] at hj; subst hj
      have hf : s.free v = false := by rcases hs with ⟨h1, _⟩ | h1; omega; exact h1
      simp [repK, gdL, (s.rep_id v u hf).1, (s.rep_id v u hf).2]
    | 1, hj =>
      simp [Tm.kids] at hj; subst hj
      have hf : t.free v = false := by rcases hs with ⟨_, h1⟩ | h1; omega; exact h1
      simp [repK, gdL, (t.rep_id v u hf).1, (t.rep_id v u hf).2]
    | j + 2, hj => simp [Tm.kids] at hj
  | loop c i s t =>
    obtain ⟨_, h2, _⟩ := h
    simp only at h2
    subst h2
    match j, hj with
    | 0, hj =>
      simp [Tm.kids] at hj; subst hj
      have hf : s.free v = false := by rcases hs with ⟨h1, _⟩ | h1; omega; exact h1
      simp [repK, gdL, (s.rep_id v u hf).1, (s.rep_id v u hf).2]
    | 1, hj =>
      simp [Tm.kids] at hj; subst hj
      rcases hs with ⟨_, h1⟩ | hf
      · simp [repK, gdL, h1]
      · simp [repK, gdL, hf, (t.rep_id v u hf).1]
    | j + 2, hj => simp [Tm.kids] at hj

/-- A part that is replaced. -/
theorem rep_turn {w : World} {S : Nat → Prop} {t u : Tm} {a b v : Int} {sv : Value} {j : Nat} {x : Tm} (ho : t.Ok) (h : SN w S t (a, b, sv)) (hj : t.kids[j]? = some x) (hs : ¬ (j = 1 ∧ b = v)) (hf : x.free v = true) :
    (repK t v u)[j]? = some (x.rep v u) ∧ (gdL t v u)[j]? = some (!x.binds v u && (decide (j = 0) || (decide (b = 0) || !u.free b))) := by
  cases t with
  | dig c => simp [Tm.kids] at hj
  | var c => simp [Tm.kids] at hj
  | pre c s =>
    match j, hj with
    | 0, hj => simp [Tm.kids] at hj; subst hj; simp [repK, gdL]
    | j + 1, hj => simp [Tm.kids] at hj
  | two c s t =>
    obtain ⟨_, h2, _⟩ := h
    simp only at h2
    subst h2
    match j, hj with
    | 0, hj => simp [Tm.kids] at hj; subst hj; simp [repK, gdL]
    | 1, hj => simp [Tm.kids] at hj; subst hj; simp [repK, gdL]
    | j + 2, hj => simp [Tm.kids] at hj
  | loop c i s t =>
    obtain ⟨_, h2, _⟩ := h
    simp only at h2
    subst h2
    have hl := isL_ge ho.2.1
    match j, hj with
    | 0, hj => simp [Tm.kids] at hj; subst hj; simp [repK, gdL]
    | 1, hj =>
      simp [Tm.kids] at hj; subst hj
      have hne : ¬ (b = v) := fun e => hs ⟨rfl, e⟩
      have hb0 : ¬ (b = 0) := by omega
      simp [repK, gdL, hne, hf, hb0, Bool.and_comm]
    | j + 2, hj => simp [Tm.kids] at hj

/-- The whole, made of its parts. -/
theorem sn_made {w0 w : World} {S S' : Nat → Prop} {t u : Tm} {a b v : Int} {sv sv' : Value} {ys : List (Int × Int × Value)} (h : SN w0 S t (a, b, sv)) (hn : ∀ c, t = .var c → c ≠ v)
    (ho : w.ownsRow 0 57 3 sv' ys.length (flat3 ys)) (hS : ∀ g, sv'.ownBlock = some g → S' g) (ha : All2 (SN w S') (repK t v u) ys) : SN w S' (t.rep v u) (a, b, sv') := by
  cases t with
  | dig c =>
    obtain ⟨h1, h2, _⟩ := h
    cases ys with
    | nil => exact ⟨h1, h2, ho, hS⟩
    | cons y ys => cases ha
  | var c =>
    obtain ⟨h1, h2, _⟩ := h
    cases ys with
    | nil =>
      simp only [Tm.rep, if_neg (hn c rfl)]
      exact ⟨h1, h2, ho, hS⟩
    | cons y ys => cases ha
  | pre c s =>
    obtain ⟨h1, h2, _⟩ := h
    match ys, ha, ho with
    | [y], ha, ho => exact ⟨h1, h2, y, ho, hS, ha.1⟩
  | two c s t =>
    obtain ⟨h1, h2, _⟩ := h
    match ys, ha, ho with
    | [y, z], ha, ho => exact ⟨h1, h2, y, z, ho, hS, ha.1, ha.2.1⟩
  | loop c i s t =>
    obtain ⟨h1, h2, _⟩ := h
    match ys, ha, ho with
    | [y, z], ha, ho => exact ⟨h1, h2, y, z, ho, hS, ha.1, ha.2.1⟩
end

section
open Go.RowKit

/-- Blocks of parts: the given ones or new ones, neither the box of what comes out nor its row. -/
def Apart (S : Nat → Prop) (h : Nat) (sv : Value) (x : Nat) : Prop := (S x ∨ h + 3 ≤ x) ∧ x ≠ h + 4 ∧ ∀ g, sv.ownBlock = some g → x ≠ g

structure RS (S : Nat → Prop) (h : Nat) (w wr : World) (na nb : Int) (nsv : Value) (ua ub : Int) (usv : Value) (sv : Value) (j : Nat) (ks : List Tm) (ys : List (Int × Int × Value)) : Prop where
  cn : C3 wr h (.int .u8 na) (.int .u8 nb) nsv TN
  cu : C3 wr (h + 1) (.int .u8 ua) (.int .u8 ub) usv TN
  cr : C3 wr (h + 2) (.int .u8 0) (.int .u8 0) (.slice none 0 0) TN
  co : C3 wr (h + 4) (.int .u8 na) (.int .u8 nb) sv TN
  row : wr.ownsRow (h + 3) TN 3 sv j (flat3 ys)
  len : ys.length = j
  ap : ∀ g, sv.ownBlock = some g → g ≠ h + 4
  ks : All2 (SN wr (Apart S h sv)) ks ys
  hz : w.heap.size = h
  gr : w.grownBy wr none

theorem all2_map {α β : Type} {R R' : α → β → Prop} (h : ∀ a b, R a b → R' a b) : ∀ {l : List α} {m : List β}, All2 R l m → All2 R' l m := fun ha => All2.mono h _ _ ha
theorem flat3_app : ∀ (l : List (Int × Int × Value)) (a b : Int) (sv : Value), flat3 (l ++ [(a, b, sv)]) = flat3 l ++ [.int .u8 a, .int .u8 b, sv]
  | [], _, _, _ => rfl
  | (m, n, s) :: l, a, b, sv => by simp [flat3, flat3_app l a b sv]

section
variable {S : Nat → Prop} {h j : Nat} {w wr : World} {na nb ua ub : Int} {nsv usv sv : Value} {ks : List Tm} {ys : List (Int × Int × Value)}
theorem RS.grown {w' : World} (r : RS S h w wr na nb nsv ua ub usv sv j ks ys) (hg : wr.grownBy w' none) : RS S h w w' na nb nsv ua ub usv sv j ks ys :=
  ⟨r.cn.grown hg (by simp), r.cu.grown hg (by simp), r.cr.grown hg (by simp), r.co.grown hg (by simp), own_keep r.row (fun b hb => hg.block b (r.row.lt b hb).2 (by simp)), r.len, r.ap,
    all2_map (fun t y hy => hy.grown hg) r.ks, r.hz, r.gr.trans hg⟩

theorem RS.apart_new (r : RS S h w wr na nb nsv ua ub usv sv j ks ys) (hS : ∀ x, S x → x < w.heap.size) {x : Nat} (hx : S x ∨ wr.heap.size ≤ x) : Apart S h sv x := by
  have hlt : h + 4 < wr.heap.size := r.co.lt
  have hz := r.hz
  rcases hx with hx | hx
  · have := hS x hx
    exact ⟨.inl hx, by omega, fun g hg e => by have := (r.row.lt g hg).1; omega⟩
  · exact ⟨.inr (by omega), by omega, fun g hg e => by have := (r.row.lt g hg).2; omega⟩

/-- The end: what comes out is laid into the result's box. -/
theorem RS.ended (r : RS S h w wr na nb nsv ua ub usv sv j ks ys) (hS : ∀ x, S x → x < w.heap.size) :
    (laid3 wr (h + 2) (.int .u8 na) (.int .u8 nb) sv).ownsRow 0 TN 3 sv ys.length (flat3 ys) ∧ (∀ g, sv.ownBlock = some g → S g ∨ w.heap.size ≤ g) ∧ All2 (SN (laid3 wr (h + 2) (.int .u8 na) (.int .u8 nb) sv) (fun x => S x ∨ w.heap.size ≤ x)) ks ys ∧ w.grownBy (laid3 wr (h + 2) (.int .u8 na) (.int .u8 nb) sv) none := by
  have hz := r.hz
  refine ⟨?_, fun g hg => .inr (by have := (r.row.lt g hg).1; omega), ?_, gr_none (gr_laid3 (g := h + 2) (gr_some2 r.gr) (by omega) _ _ _) (by omega)⟩
  · rw [r.len]
    exact own_base (own_keep r.row (fun g hg => laid3_heap _ _ _ _ _ _ (by have := (r.row.lt g hg).1; omega))) (Nat.zero_le _)
  · refine all2_map (fun t y hy => hy.keep (fun b hb hl => laid3_heap _ _ _ _ _ _ ?_) (fun b hb _ => ?_) t y) r.ks
    · rcases hb.1 with h1 | h1
      · have := hS b h1; omega
      · omega
    · rcases hb.1 with h1 | h1
      · exact .inl h1
      · exact .inr (by omega)

theorem RS.push {w2 : World} {sv2 : Value} {a3 b3 : Int} {sv3 : Value} {t3 : Tm} (r : RS S h w wr na nb nsv ua ub usv sv j ks ys)
    (ho : w2.ownsRow (h + 3) TN 3 sv2 (j + 1) (flat3 ys ++ [.int .u8 a3, .int .u8 b3, sv3])) (hg : wr.grownBy w2 sv.ownBlock) (hat : sv2.ownBlock = sv.ownBlock ∨ sv2.ownBlock = some wr.heap.size)
    (ht : SN wr (Apart S h sv) t3 (a3, b3, sv3)) :
    RS S h w (w2.setCell ⟨h + 4, 2, none⟩ sv2) na nb nsv ua ub usv sv2 (j + 1) (ks ++ [t3]) (ys ++ [(a3, b3, sv3)]) := by
  have hlt : h + 4 < wr.heap.size := r.co.lt
  have hge : ∀ g, sv.ownBlock = some g → h + 3 ≤ g := fun g hg => (r.row.lt g hg).1
  have hne : ∀ x, x < h + 3 → some x ≠ sv.ownBlock := fun x hx e => by have := hge x e.symm; omega
  have hne4 : some (h + 4) ≠ sv.ownBlock := fun e => r.ap _ e.symm rfl
  have hset := gr_set w2 (h + 4) 2 sv2
  have hap : ∀ g, sv2.ownBlock = some g → g ≠ h + 4 := fun g hg => by
    rcases hat with e | e
    · exact r.ap g (e ▸ hg)
    · rw [e] at hg; cases hg; omega
  have hsn : ∀ t y, SN wr (Apart S h sv) t y → SN (w2.setCell ⟨h + 4, 2, none⟩ sv2) (Apart S h sv2) t y := fun t y hy =>
    hy.keep (fun b hb hl => by
      have h1 := hg.block b hl (fun e => hb.2.2 b e.symm rfl)
      have h2 := hset.block b (Nat.lt_of_lt_of_le hl hg.size) (by simp; exact hb.2.1)
      exact h2.trans h1) (fun b hb hl => ⟨hb.1, hb.2.1, fun g hg2 => by
      rcases hat with e | e
      · exact hb.2.2 g (e ▸ hg2)
      · rw [e] at hg2; cases hg2; omega⟩) t y
  refine ⟨(r.cn.grown hg (hne h (by omega))).grown hset (by simp), (r.cu.grown hg (hne (h + 1) (by omega))).grown hset (by simp), (r.cr.grown hg (hne (h + 2) (by omega))).grown hset (by simp), (r.co.grown hg hne4).set2 sv2, ?_, by rw [List.length_append, r.len]; rfl, hap, ?_, r.hz, ?_⟩
  · rw [flat3_app]
    exact own_keep ho (fun b hb => hset.block b (ho.lt b hb).2 (by simp; exact hap b hb))
  · exact All2.snoc (hsn _ _ ht) _ _ (all2_map hsn r.ks)
  · have h1 : w.grownBy w2 none := ⟨hg.os.trans r.gr.os, hg.tape.trans r.gr.tape, hg.output.trans r.gr.output, Nat.le_trans r.gr.size hg.size, fun k hk hn => (hg.block k (Nat.lt_of_lt_of_le hk r.gr.size) (hne k (by have := r.hz; omega))).trans (r.gr.block k hk hn)⟩
    exact gr_new h1 hset (by have := r.hz; omega)
end
end
end

/- SRepL -/
section
open Go.RowKit

theorem cell3_new (w : World) (x y z : Value) (ty : TypeId) : ∀ j u, [x, y, z][j]? = some u → (w.alloc (.cells #[x, y, z] ty)).cell? ((⟨w.heap.size, 0, none⟩ : Addr).add j) = some u := by
  intro j u hj
  have hadd : (⟨w.heap.size, 0, none⟩ : Addr).add j = ⟨w.heap.size, j, none⟩ := by unfold Addr.add; split <;> simp_all
  rw [hadd]
  match j, hj with
  | 0, hj => simp at hj; subst hj; exact (c3_new w x y z ty).c0
  | 1, hj => simp at hj; subst hj; exact (c3_new w x y z ty).c1
  | 2, hj => simp at hj; subst hj; exact (c3_new w x y z ty).c2
  | j + 3, hj => simp at hj
theorem good12 {x : Bool} {j : Nat} {A B : Bool} {fb : Bool} {b : Int} (h : A = (B && (x && (decide (j = 0) || (decide (b = 0) || !fb))))) (hg : true = B) (hj : ((j : Int) == 0) = true) : x = A := by
  have hj9 : j = 0 := by rw [beq_iff_eq] at hj; omega
  rw [h, ← hg]
  simp [hj9]
theorem good3 {x gd : Bool} {j : Nat} {A B : Bool} {fb : Bool} {b : Int} {r : Bool} (h : A = (B && (x && (decide (j = 0) || (decide (b = 0) || !fb))))) (hg : gd = B) (hj : ((j : Int) == 0) = false)
    (hc : (gd = false ∧ r = false) ∨ (x = false ∧ r = false) ∨ (gd = true ∧ x = true ∧ b = 0 ∧ r = true) ∨ (gd = true ∧ x = true ∧ b ≠ 0 ∧ r = !fb)) : r = A := by
  have hj9 : ¬ j = 0 := by rw [beq_eq_false_iff_ne] at hj; omega
  rw [h, ← hg]
  rcases hc with ⟨h1, h2⟩ | ⟨h1, h2⟩ | ⟨h1, h2, h3, h4⟩ | ⟨h1, h2, h3, h4⟩ <;> simp_all
theorem take_snoc5 {α : Type} {l : List α} {j : Nat} {x : α} (h : l[j]? = some x) : l.take j ++ [x] = l.take (j + 1) := by rw [List.take_add_one, h]; rfl

set_option maxRecDepth 100000 in
set_option maxHeartbeats 8000000 in
theorem srep_go (t u : Tm) (a b v ua ub : Int) (A UA : Option Addr) (k c uk uc : Nat) (S : Nat → Prop) (w : World) (hok : t.Ok) (huok : u.Ok) (hv0 : 0 < v) (hsz : t.size ≤ 1000000)
    (hn : ∀ c, t = .var c → c ≠ v) (hS : ∀ x, S x → x < w.heap.size) (ht : SN w S t (a, b, .slice A k c)) (hu : SN w S u (ua, ub, .slice UA uk uc))
    (ih : ∀ x ∈ t.kids, ∀ (a2 b2 : Int) (A2 : Option Addr) (k2 c2 : Nat) (w' : World), w.grownBy w' none → SN w' S x (a2, b2, .slice A2 k2 c2) → Calls Tryz.prog 30 #[.agg #[.int .u8 a2, .int .u8 b2, .slice A2 k2 c2], .int .u8 v, .agg #[.int .u8 ua, .int .u8 ub, .slice UA uk uc]] w' (SRP (x.rep v u) (!x.binds v u) S w')) :
    Calls Tryz.prog 30 #[.agg #[.int .u8 a, .int .u8 b, .slice A k c], .int .u8 v, .agg #[.int .u8 ua, .int .u8 ub, .slice UA uk uc]] w (SRP (t.rep v u) (!t.binds v u) S w) := by
  obtain ⟨i0, hi0, hz0, hz1, hz2⟩ := info_parts infoNode
  have HT := Lib.hid ht
  have HU := Lib.hid hu
  have HI := Lib.hid ih
  have HOK := Lib.hid hok
  obtain ⟨xs, hox, hax⟩ := ht.kids
  obtain ⟨hk, hkc, hrow⟩ := srow3 hox
  have hlen := All2.length _ _ hax
  have HKL := Lib.hid hk
  have HLEN := Lib.hid hlen
  have HROW := Lib.hid hrow
  have HA := Lib.hid hax
  have hk2 : k ≤ 2 := by have := kids_len t; omega
  have HHIT : Hid ((a == 97) = true → (b == v) = false) := Lib.hid (fun h97 => by
    rw [beq_iff_eq] at h97
    cases hvr : t.isV with
    | true =>
      cases t <;> try cases hvr
      rename_i cc
      obtain ⟨_, h2, _⟩ := ht
      simp only at h2
      rw [beq_eq_false_iff_ne, h2]
      exact hn cc rfl
    | false => exact absurd h97 (ht.novar hok hvr))
  have HSN := Lib.hid (fun (w' : World) (S' : Nat → Prop) (sv' : Value) (ys : List (Int × Int × Value)) ho hS' ha => sn_made (w := w') (S' := S') (v := v) (u := u) (sv' := sv') (ys := ys) ht hn ho hS' ha)
  have HSTAY := Lib.hid (fun (j : Nat) (x : Tm) hj hs => rep_stay (v := v) (u := u) (j := j) (x := x) hok ht hv0 hj hs)
  have HTURN := Lib.hid (fun (j : Nat) (x : Tm) hj hs hf => rep_turn (v := v) (u := u) (j := j) (x := x) hok ht hj hs hf)
  have HB0 : Hid (b = 0 ∨ 0 < b) := Lib.hid (by
    cases t with
    | dig c => obtain ⟨_, h2, _⟩ := ht; simp only at h2; have := isD_ge hok; omega
    | var c => obtain ⟨_, h2, _⟩ := ht; simp only at h2; have := isV_ge hok; omega
    | pre c s => obtain ⟨_, h2, _⟩ := ht; simp only at h2; omega
    | two c s t => obtain ⟨_, h2, _⟩ := ht; simp only at h2; omega
    | loop c i s t => obtain ⟨_, h2, _⟩ := ht; simp only at h2; have := isL_ge hok.2.1; omega)
  have HGL := Lib.hid (gdL_all t v u)
  have HRKL := Lib.hid (repK_len t v u)
  have HGLL := Lib.hid (gdL_len t v u)
  have HKS := Lib.hid (csum_kids t)
  obtain ⟨res, hres⟩ : ∃ r, (!t.binds v u) = r := ⟨_, rfl⟩
  rw [hres]
  have HRES := Lib.hid hres
  obtain ⟨h, hh⟩ : ∃ h, w.heap.size = h := ⟨_, rfl⟩
  obtain ⟨w1, hw1⟩ : ∃ w1, w.alloc (.cells #[.int .u8 a, .int .u8 b, .slice A k c] TN) = w1 := ⟨_, rfl⟩
  have z1 : w1.heap.size = h + 1 := by rw [← hw1, World.size_alloc, hh]
  obtain ⟨w2, hw2⟩ : ∃ w2, w1.alloc (.cells #[.int .u8 ua, .int .u8 ub, .slice UA uk uc] TN) = w2 := ⟨_, rfl⟩
  have z2 : w2.heap.size = h + 2 := by rw [← hw2, World.size_alloc, z1]
  obtain ⟨w3, hw3⟩ : ∃ w3, w2.alloc (.cells #[.int .u8 0, .int .u8 0, .slice none 0 0] TN) = w3 := ⟨_, rfl⟩
  have z3 : w3.heap.size = h + 3 := by rw [← hw3, World.size_alloc, z2]
  obtain ⟨w4, hw4⟩ : ∃ w4, w3.alloc (.cells #[] TN) = w4 := ⟨_, rfl⟩
  have z4 : w4.heap.size = h + 4 := by rw [← hw4, World.size_alloc, z3]
  obtain ⟨w5, hw5⟩ : ∃ w5, w4.alloc (.cells #[.int .u8 a, .int .u8 b, .slice (some ⟨h + 3, 0, none⟩) 0 0] TN) = w5 := ⟨_, rfl⟩
  have k1 : C3 w3 h (.int .u8 a) (.int .u8 b) (.slice A k c) TN := by rw [← hw3, ← hw2, ← hw1, ← hh]; exact ((c3_new _ _ _ _ _).alloc _).alloc _
  have k2 : C3 w3 (h + 1) (.int .u8 ua) (.int .u8 ub) (.slice UA uk uc) TN := by rw [← hw3, ← hw2, ← z1]; exact (c3_new _ _ _ _ _).alloc _
  have k3 : C3 w3 (h + 2) (.int .u8 0) (.int .u8 0) (.slice none 0 0) TN := by rw [← hw3, ← z2]; exact c3_new _ _ _ _ _
  have g5 : w.grownBy w5 none := by
    rw [← hw5, ← hw4, ← hw3, ← hw2, ← hw1]
    exact ((((World.grownBy_alloc _ _ none).trans (World.grownBy_alloc _ _ none)).trans (World.grownBy_alloc _ _ none)).trans (World.grownBy_alloc _ _ none)).trans (World.grownBy_alloc _ _ none)
  have R5 : RS S h w w5 a b (.slice A k c) ua ub (.slice UA uk uc) (.slice (some ⟨h + 3, 0, none⟩) 0 0) 0 [] [] :=
    ⟨by rw [← hw5, ← hw4]; exact (k1.alloc _).alloc _, by rw [← hw5, ← hw4]; exact (k2.alloc _).alloc _, by rw [← hw5, ← hw4]; exact (k3.alloc _).alloc _, by rw [← hw5, ← z4]; exact c3_new _ _ _ _ _,
      by
        have := (World.ownsRow_made (base := h + 3) (e := TN) (size := 3) w3 #[] 0 (by omega) (by simp) (by simp)).alloc (.cells #[.int .u8 a, .int .u8 b, .slice (some ⟨h + 3, 0, none⟩) 0 0] TN)
        rw [hw4, hw5, z3] at this
        exact this, rfl, fun g hg => by simp [Value.ownBlock] at hg; omega, trivial, hh, g5⟩
  have n0 := k1.c0
  have n1 := k1.c1
  have n2 := R5.cn.c2
  have HR5 := Lib.hid R5
  clear ht hu ih hok hox hax hk hrow hlen hn hres k1 k2 k3 g5 R5
  obtain ⟨h9, hh9⟩ : ∃ h9, (a == 97) = h9 := ⟨_, rfl⟩
  have HH9 : h9 = true → (b == v) = false := fun e => HHIT.out (by rw [hh9]; exact e)
  cases h9
  · --1
    clear HH9
    go_enter Tryz.func30, Tryz.ntmps30
    go_wp2_with fail
    go_loopw [9, 33] (fun q i wr => ∃ (j : Nat) (gd : Bool) (PA : Option Addr) (pn pc : Nat) (ys : List (Int × Int × Value)), j ≤ k ∧ i = .int .i64 j ∧ q = .bool gd ∧ Hid (gd = ((gdL t v u).take j).all id) ∧ Hid (RS S h w wr a b (.slice A k c) ua ub (.slice UA uk uc) (.slice PA pn pc) j ((repK t v u).take j) ys)) (fun _ i _ => k - (intOf i).toNat)
    case atStart => exact ⟨0, true, some ⟨h + 3, 0, none⟩, 0, 0, [], Nat.zero_le _, rfl, rfl, Lib.hid rfl, HR5⟩
    case round =>
      obtain ⟨j, gd, PA, pn, pc, ys, hj, rfl, rfl, hgd, hrs⟩ := hrel
      by_cases hlt : j < k
      · obtain ⟨gA, rfl, hgA, hcell⟩ := HROW.out (by omega)
        obtain ⟨tj, ⟨a2, b2, sv2⟩, htj, hxj, hpj⟩ := HA.out.get (j := j) (by have := HKL.out; omega)
        obtain ⟨A2, k2, c2, hsv⟩ := hpj.form
        simp only at hsv
        subst hsv
        obtain ⟨q0, q1, q2⟩ := hcell j _ hxj
        have hc0 := hrs.out.gr.cell q0 (by simp)
        have hc1 := hrs.out.gr.cell q1 (by simp)
        have hc2 := hrs.out.gr.cell q2 (by simp)
        have HST := Lib.hid (fun hs => HSTAY.out j tj htj hs)
        have HTN := Lib.hid (fun hs hf => HTURN.out j tj htj hs hf)
        have htok : tj.Ok := kids_ok' HOK.out (List.mem_of_getElem? htj)
        have HCALL := Lib.hid (HI.out tj (List.mem_of_getElem? htj) a2 b2 A2 k2 c2)
        have HPJ := Lib.hid hpj
        obtain ⟨wp, hwp⟩ : ∃ wp, wr.alloc (.cells #[.int .u8 a2, .int .u8 b2, .slice A2 k2 c2] TN) = wp := ⟨_, rfl⟩
        obtain ⟨pz, hpz⟩ : ∃ pz, wr.heap.size = pz := ⟨_, rfl⟩
        have gwp : wr.grownBy wp none := by rw [← hwp]; exact World.grownBy_alloc _ _ _
        have RP0 := Lib.hid (hrs.out.grown gwp)
        have CP := Lib.hid (show C3 wp pz (.int .u8 a2) (.int .u8 b2) (.slice A2 k2 c2) TN by rw [← hwp, ← hpz]; exact c3_new _ _ _ _ _)
        have HAP : Hid (∀ (w' : World) (x : Nat), RS S h w w' a b (.slice (some ⟨gA, 0, none⟩) k c) ua ub (.slice UA uk uc) (.slice PA pn pc) j ((repK t v u).take j) ys → x < w.heap.size → S x → Apart S h (.slice PA pn pc) x) := Lib.hid (fun w' x r hx hs => ⟨.inl hs, by omega, fun g hg e => by have := (r.row.lt g hg).1; omega⟩)
        have n1p := RP0.out.cn.c1
        have p0 := CP.out.c0
        have p1 := CP.out.c1
        have p2 := CP.out.c2
        have HFREE := Lib.hid (sfree_any tj.size tj S a2 b2 A2 k2 c2 v wp (Nat.le_refl _) htok hv0 (hpj.grown RP0.out.gr))
        obtain ⟨z, hz⟩ : ∃ z, tj.free v = z := ⟨_, rfl⟩
        rw [hz] at HFREE
        have HZ := Lib.hid hz
        clear htj hxj hpj q0 q1 q2 hcell hz gwp htok
        by_cases hskip : j = 1 ∧ b = v
        · obtain ⟨hj1, rfl⟩ := hskip
          subst hj1
          have hbb : (b == b) = true := by simp
          have HKJ := Lib.hid (HST.out (.inl ⟨rfl, rfl⟩)).1
          have HGJ := Lib.hid (all_step (HST.out (.inl ⟨rfl, rfl⟩)).2)
          have HPA : Hid (SN wp (Apart S h (.slice PA pn pc)) tj (a2, b2, .slice A2 k2 c2)) := Lib.hid (HPJ.out.keep (fun x _ hl => RP0.out.gr.block x hl (by simp)) (fun x hx hl => HAP.out wp x RP0.out hl hx) _ _)
          have o2 := RP0.out.co.c2
          have hlt4 := RP0.out.co.lt
          have own1 := (RP0.out.grown (World.grownBy_alloc wp (.cells #[.int .u8 a2, .int .u8 b2, .slice A2 k2 c2] TN) none)).row
          go_wp2_with (at_builtin; refine wpList_append_own_at _ rfl _ _ 55 rfl (h + 3) TN i0 (.agg #[.int .u8 0, .int .u8 0, .slice none 0 0]) 3 32 Tryz.underlying55 hi0 hz0 hz1 hz2 rfl (by decide) _ 1 (flat3 ys) rfl own1 ⟨wp.heap.size, 0, none⟩ 1 1 [.int .u8 a2, .int .u8 b2, .slice A2 k2 c2] rfl rfl ?n1_1 ?n1_2 ?n1_3 ?n1_4 ?n1_5 ?_)
          try case n1_1 => exact cell3_new _ _ _ _ _
          try case n1_2 => simp [Value.oneCell']
          try case n1_3 => simp only [maxLen]; omega
          try case n1_4 => omega
          try case n1_5 => first | omega | (rw [World.size_alloc]; omega)
          intro v8 w8 hown8 hg8 _ hat8
          obtain ⟨A8, k8, c8, rfl⟩ := own_form hown8
          have RP := (RP0.out.grown (World.grownBy_alloc wp (.cells #[.int .u8 a2, .int .u8 b2, .slice A2 k2 c2] TN) none)).push hown8 hg8 (by rw [World.size_alloc]; exact hat8) (HPA.out.grown (World.grownBy_alloc wp (.cells #[.int .u8 a2, .int .u8 b2, .slice A2 k2 c2] TN) none))
          rw [take_snoc5 HKJ.out] at RP
          have HRP := Lib.hid RP
          have HO8 := Lib.hid ((RP0.out.co.alloc (.cells #[.int .u8 a2, .int .u8 b2, .slice A2 k2 c2] TN)).grown hg8 (fun e => RP0.out.ap _ e.symm rfl))
          have s2 := HO8.out.c2
          have sf := HO8.out.f 2
          clear RP hown8 hg8 hat8 own1 o2 hlt4
          go_wp2_with fail
          go_roundw
          case rel => exact ⟨1 + 1, _, A8, k8, c8, _, by omega, by go_num, rfl, Lib.hid (by rw [HGJ.out, ← hgd.out]; simp), HRP⟩
          case measure => simp [intOf]; omega
        · obtain ⟨jb, hjb⟩ : ∃ x, ((j : Int) == 1) = x := ⟨_, rfl⟩
          obtain ⟨bb, hbb⟩ : ∃ x, (b == v) = x := ⟨_, rfl⟩
          have hjbb : (jb && bb) = false := by
            rw [← hjb, ← hbb]
            cases h1 : ((j : Int) == 1) <;> cases h2 : (b == v) <;> try rfl
            rw [beq_iff_eq] at h1 h2
            exact absurd ⟨by omega, h2⟩ hskip
          have HSK := Lib.hid hskip
          clear hskip
          cases jb
          · cases bb
            · --1
              try clear hjbb
              go_wp2_with fail
              refine HFREE.out.mono ?_
              rintro e wf ⟨rfl, hgf⟩
              have RF := Lib.hid (RP0.out.grown hgf)
              have CF := Lib.hid (CP.out.grown hgf (by simp))
              clear hgf p0 p1 p2 n1p
              have p0 := CF.out.c0
              have p1 := CF.out.c1
              have p2 := CF.out.c2
              have HPF : Hid (SN wf (Apart S h (.slice PA pn pc)) tj (a2, b2, .slice A2 k2 c2)) := Lib.hid (HPJ.out.keep (fun x _ hl => RF.out.gr.block x hl (by simp)) (fun x hx hl => HAP.out wf x RF.out hl hx) _ _)
              cases z
              · have HKJ := Lib.hid (HST.out (.inr HZ.out)).1
                have HGJ := Lib.hid (all_step (HST.out (.inr HZ.out)).2)
                have o2 := RF.out.co.c2
                have hlt4 := RF.out.co.lt
                have own1 := (RF.out.grown (World.grownBy_alloc wf (.cells #[.int .u8 a2, .int .u8 b2, .slice A2 k2 c2] TN) none)).row
                go_wp2_with (at_builtin; refine wpList_append_own_at _ rfl _ _ 55 rfl (h + 3) TN i0 (.agg #[.int .u8 0, .int .u8 0, .slice none 0 0]) 3 32 Tryz.underlying55 hi0 hz0 hz1 hz2 rfl (by decide) _ j (flat3 ys) rfl own1 ⟨wf.heap.size, 0, none⟩ 1 1 [.int .u8 a2, .int .u8 b2, .slice A2 k2 c2] rfl rfl ?n2_1 ?n2_2 ?n2_3 ?n2_4 ?n2_5 ?_)
                try case n2_1 => exact cell3_new _ _ _ _ _
                try case n2_2 => simp [Value.oneCell']
                try case n2_3 => simp only [maxLen]; omega
                try case n2_4 => omega
                try case n2_5 => first | omega | (rw [World.size_alloc]; omega)
                intro v8 w8 hown8 hg8 _ hat8
                obtain ⟨A8, k8, c8, rfl⟩ := own_form hown8
                have RP := (RF.out.grown (World.grownBy_alloc wf (.cells #[.int .u8 a2, .int .u8 b2, .slice A2 k2 c2] TN) none)).push hown8 hg8 (by rw [World.size_alloc]; exact hat8) (HPF.out.grown (World.grownBy_alloc wf (.cells #[.int .u8 a2, .int .u8 b2, .slice A2 k2 c2] TN) none))
                rw [take_snoc5 HKJ.out] at RP
                have HRP := Lib.hid RP
                have HO8 := Lib.hid ((RF.out.co.alloc (.cells #[.int .u8 a2, .int .u8 b2, .slice A2 k2 c2] TN)).grown hg8 (fun e => RF.out.ap _ e.symm rfl))
                have s2 := HO8.out.c2
                have sf := HO8.out.f 2
                clear RP hown8 hg8 hat8 own1 o2 hlt4
                go_wp2_with fail
                go_roundw
                case rel => exact ⟨j + 1, _, A8, k8, c8, _, by omega, by go_num, rfl, Lib.hid (by rw [HGJ.out, ← hgd.out]; simp), HRP⟩
                case measure => simp [intOf]; omega
              · have HREP := (HTN.out HSK.out HZ.out)
                have HKJ := Lib.hid HREP.1
                have HGJ := Lib.hid (all_step HREP.2)
                clear HREP
                have hj0 : ((j : Int) == 0) = true := by (have h1 : ¬ j = 1 := (fun e => by (subst e; simp at hjb)); rw [beq_iff_eq]; omega)
                obtain ⟨oz, hoz⟩ : ∃ oz, (!tj.binds v u) = oz := ⟨_, rfl⟩
                rw [hoz] at HGJ HCALL
                have HOZ := Lib.hid hoz
                clear hoz
                have u0 := RF.out.cu.c0
                have u1 := RF.out.cu.c1
                have u2 := RF.out.cu.c2
                go_wp2_with fail
                refine (HCALL.out wf RF.out.gr (HPJ.out.grown RF.out.gr)).mono ?_
                rintro e w7 ⟨a3, b3, A3, k3, c3, rfl, hg7, hsn7⟩
                have HG7 := Lib.hid hg7
                have HS7 := Lib.hid hsn7
                clear hg7 hsn7 u0 u1 u2 p0 p1 p2
                obtain ⟨wq, hwq⟩ : ∃ wq, w7.alloc (.cells #[.int .u8 a3, .int .u8 b3, .slice A3 k3 c3] TN) = wq := ⟨_, rfl⟩
                obtain ⟨qz, hqz⟩ : ∃ qz, w7.heap.size = qz := ⟨_, rfl⟩
                have gwq : w7.grownBy wq none := by rw [← hwq]; exact World.grownBy_alloc _ _ _
                have RQ := Lib.hid (RF.out.grown (HG7.out.trans gwq))
                have CQ := Lib.hid (show C3 wq qz (.int .u8 a3) (.int .u8 b3) (.slice A3 k3 c3) TN by rw [← hwq, ← hqz]; exact c3_new _ _ _ _ _)
                have HPQ : Hid (SN wq (Apart S h (.slice PA pn pc)) (tj.rep v u) (a3, b3, .slice A3 k3 c3)) := Lib.hid ((HS7.out.grown gwq).keep (fun _ _ _ => rfl) (fun x hx hl => RF.out.apart_new hS hx) _ _)
                have p0 := CQ.out.c0
                have p1 := CQ.out.c1
                have p2 := CQ.out.c2
                have n1p := RQ.out.cn.c1
                clear gwq HS7 HG7
                have hgt : gd = true := by
                  have hj9 : j = 0 := by (rw [beq_iff_eq] at hj0; omega)
                  rw [hgd.out, hj9]; simp
                subst hgt
                cases oz
                · have o2 := RQ.out.co.c2
                  have hlt4 := RQ.out.co.lt
                  have own1 := (RQ.out.grown (World.grownBy_alloc wq (.cells #[.int .u8 a3, .int .u8 b3, .slice A3 k3 c3] TN) none)).row
                  go_wp2_with (at_builtin; refine wpList_append_own_at _ rfl _ _ 55 rfl (h + 3) TN i0 (.agg #[.int .u8 0, .int .u8 0, .slice none 0 0]) 3 32 Tryz.underlying55 hi0 hz0 hz1 hz2 rfl (by decide) _ j (flat3 ys) rfl own1 ⟨wq.heap.size, 0, none⟩ 1 1 [.int .u8 a3, .int .u8 b3, .slice A3 k3 c3] rfl rfl ?n5_1 ?n5_2 ?n5_3 ?n5_4 ?n5_5 ?_)
                  try case n5_1 => exact cell3_new _ _ _ _ _
                  try case n5_2 => simp [Value.oneCell']
                  try case n5_3 => simp only [maxLen]; omega
                  try case n5_4 => omega
                  try case n5_5 => first | omega | (rw [World.size_alloc]; omega)
                  intro v8 w8 hown8 hg8 _ hat8
                  obtain ⟨A8, k8, c8, rfl⟩ := own_form hown8
                  have RP := (RQ.out.grown (World.grownBy_alloc wq (.cells #[.int .u8 a3, .int .u8 b3, .slice A3 k3 c3] TN) none)).push hown8 hg8 (by rw [World.size_alloc]; exact hat8) (HPQ.out.grown (World.grownBy_alloc wq (.cells #[.int .u8 a3, .int .u8 b3, .slice A3 k3 c3] TN) none))
                  rw [take_snoc5 HKJ.out] at RP
                  have HRP := Lib.hid RP
                  have HO8 := Lib.hid ((RQ.out.co.alloc (.cells #[.int .u8 a3, .int .u8 b3, .slice A3 k3 c3] TN)).grown hg8 (fun e => RQ.out.ap _ e.symm rfl))
                  have s2 := HO8.out.c2
                  have sf := HO8.out.f 2
                  clear RP hown8 hg8 hat8 own1 o2 hlt4
                  go_wp2_with fail
                  go_roundw
                  case rel => exact ⟨j + 1, _, A8, k8, c8, _, by omega, by go_num, rfl, Lib.hid (good12 HGJ.out hgd.out hj0), HRP⟩
                  case measure => simp [intOf]; omega
                · have o2 := RQ.out.co.c2
                  have hlt4 := RQ.out.co.lt
                  have own1 := (RQ.out.grown (World.grownBy_alloc wq (.cells #[.int .u8 a3, .int .u8 b3, .slice A3 k3 c3] TN) none)).row
                  go_wp2_with (at_builtin; refine wpList_append_own_at _ rfl _ _ 55 rfl (h + 3) TN i0 (.agg #[.int .u8 0, .int .u8 0, .slice none 0 0]) 3 32 Tryz.underlying55 hi0 hz0 hz1 hz2 rfl (by decide) _ j (flat3 ys) rfl own1 ⟨wq.heap.size, 0, none⟩ 1 1 [.int .u8 a3, .int .u8 b3, .slice A3 k3 c3] rfl rfl ?n6_1 ?n6_2 ?n6_3 ?n6_4 ?n6_5 ?_)
                  try case n6_1 => exact cell3_new _ _ _ _ _
                  try case n6_2 => simp [Value.oneCell']
                  try case n6_3 => simp only [maxLen]; omega
                  try case n6_4 => omega
                  try case n6_5 => first | omega | (rw [World.size_alloc]; omega)
                  intro v8 w8 hown8 hg8 _ hat8
                  obtain ⟨A8, k8, c8, rfl⟩ := own_form hown8
                  have RP := (RQ.out.grown (World.grownBy_alloc wq (.cells #[.int .u8 a3, .int .u8 b3, .slice A3 k3 c3] TN) none)).push hown8 hg8 (by rw [World.size_alloc]; exact hat8) (HPQ.out.grown (World.grownBy_alloc wq (.cells #[.int .u8 a3, .int .u8 b3, .slice A3 k3 c3] TN) none))
                  rw [take_snoc5 HKJ.out] at RP
                  have HRP := Lib.hid RP
                  have HO8 := Lib.hid ((RQ.out.co.alloc (.cells #[.int .u8 a3, .int .u8 b3, .slice A3 k3 c3] TN)).grown hg8 (fun e => RQ.out.ap _ e.symm rfl))
                  have s2 := HO8.out.c2
                  have sf := HO8.out.f 2
                  clear RP hown8 hg8 hat8 own1 o2 hlt4
                  go_wp2_with fail
                  go_roundw
                  case rel => exact ⟨j + 1, _, A8, k8, c8, _, by omega, by go_num, rfl, Lib.hid (good12 HGJ.out hgd.out hj0), HRP⟩
                  case measure => simp [intOf]; omega

            · --2
              try clear hjbb
              go_wp2_with fail
              refine HFREE.out.mono ?_
              rintro e wf ⟨rfl, hgf⟩
              have RF := Lib.hid (RP0.out.grown hgf)
              have CF := Lib.hid (CP.out.grown hgf (by simp))
              clear hgf p0 p1 p2 n1p
              have p0 := CF.out.c0
              have p1 := CF.out.c1
              have p2 := CF.out.c2
              have HPF : Hid (SN wf (Apart S h (.slice PA pn pc)) tj (a2, b2, .slice A2 k2 c2)) := Lib.hid (HPJ.out.keep (fun x _ hl => RF.out.gr.block x hl (by simp)) (fun x hx hl => HAP.out wf x RF.out hl hx) _ _)
              cases z
              · have HKJ := Lib.hid (HST.out (.inr HZ.out)).1
                have HGJ := Lib.hid (all_step (HST.out (.inr HZ.out)).2)
                have o2 := RF.out.co.c2
                have hlt4 := RF.out.co.lt
                have own1 := (RF.out.grown (World.grownBy_alloc wf (.cells #[.int .u8 a2, .int .u8 b2, .slice A2 k2 c2] TN) none)).row
                go_wp2_with (at_builtin; refine wpList_append_own_at _ rfl _ _ 55 rfl (h + 3) TN i0 (.agg #[.int .u8 0, .int .u8 0, .slice none 0 0]) 3 32 Tryz.underlying55 hi0 hz0 hz1 hz2 rfl (by decide) _ j (flat3 ys) rfl own1 ⟨wf.heap.size, 0, none⟩ 1 1 [.int .u8 a2, .int .u8 b2, .slice A2 k2 c2] rfl rfl ?n3_1 ?n3_2 ?n3_3 ?n3_4 ?n3_5 ?_)
                try case n3_1 => exact cell3_new _ _ _ _ _
                try case n3_2 => simp [Value.oneCell']
                try case n3_3 => simp only [maxLen]; omega
                try case n3_4 => omega
                try case n3_5 => first | omega | (rw [World.size_alloc]; omega)
                intro v8 w8 hown8 hg8 _ hat8
                obtain ⟨A8, k8, c8, rfl⟩ := own_form hown8
                have RP := (RF.out.grown (World.grownBy_alloc wf (.cells #[.int .u8 a2, .int .u8 b2, .slice A2 k2 c2] TN) none)).push hown8 hg8 (by rw [World.size_alloc]; exact hat8) (HPF.out.grown (World.grownBy_alloc wf (.cells #[.int .u8 a2, .int .u8 b2, .slice A2 k2 c2] TN) none))
                rw [take_snoc5 HKJ.out] at RP
                have HRP := Lib.hid RP
                have HO8 := Lib.hid ((RF.out.co.alloc (.cells #[.int .u8 a2, .int .u8 b2, .slice A2 k2 c2] TN)).grown hg8 (fun e => RF.out.ap _ e.symm rfl))
                have s2 := HO8.out.c2
                have sf := HO8.out.f 2
                clear RP hown8 hg8 hat8 own1 o2 hlt4
                go_wp2_with fail
                go_roundw
                case rel => exact ⟨j + 1, _, A8, k8, c8, _, by omega, by go_num, rfl, Lib.hid (by rw [HGJ.out, ← hgd.out]; simp), HRP⟩
                case measure => simp [intOf]; omega
              · have HREP := (HTN.out HSK.out HZ.out)
                have HKJ := Lib.hid HREP.1
                have HGJ := Lib.hid (all_step HREP.2)
                clear HREP
                have hj0 : ((j : Int) == 0) = true := by (have h1 : ¬ j = 1 := (fun e => by (subst e; simp at hjb)); rw [beq_iff_eq]; omega)
                obtain ⟨oz, hoz⟩ : ∃ oz, (!tj.binds v u) = oz := ⟨_, rfl⟩
                rw [hoz] at HGJ HCALL
                have HOZ := Lib.hid hoz
                clear hoz
                have u0 := RF.out.cu.c0
                have u1 := RF.out.cu.c1
                have u2 := RF.out.cu.c2
                go_wp2_with fail
                refine (HCALL.out wf RF.out.gr (HPJ.out.grown RF.out.gr)).mono ?_
                rintro e w7 ⟨a3, b3, A3, k3, c3, rfl, hg7, hsn7⟩
                have HG7 := Lib.hid hg7
                have HS7 := Lib.hid hsn7
                clear hg7 hsn7 u0 u1 u2 p0 p1 p2
                obtain ⟨wq, hwq⟩ : ∃ wq, w7.alloc (.cells #[.int .u8 a3, .int .u8 b3, .slice A3 k3 c3] TN) = wq := ⟨_, rfl⟩
                obtain ⟨qz, hqz⟩ : ∃ qz, w7.heap.size = qz := ⟨_, rfl⟩
                have gwq : w7.grownBy wq none := by rw [← hwq]; exact World.grownBy_alloc _ _ _
                have RQ := Lib.hid (RF.out.grown (HG7.out.trans gwq))
                have CQ := Lib.hid (show C3 wq qz (.int .u8 a3) (.int .u8 b3) (.slice A3 k3 c3) TN by rw [← hwq, ← hqz]; exact c3_new _ _ _ _ _)
                have HPQ : Hid (SN wq (Apart S h (.slice PA pn pc)) (tj.rep v u) (a3, b3, .slice A3 k3 c3)) := Lib.hid ((HS7.out.grown gwq).keep (fun _ _ _ => rfl) (fun x hx hl => RF.out.apart_new hS hx) _ _)
                have p0 := CQ.out.c0
                have p1 := CQ.out.c1
                have p2 := CQ.out.c2
                have n1p := RQ.out.cn.c1
                clear gwq HS7 HG7
                have hgt : gd = true := by
                  have hj9 : j = 0 := by (rw [beq_iff_eq] at hj0; omega)
                  rw [hgd.out, hj9]; simp
                subst hgt
                cases oz
                · have o2 := RQ.out.co.c2
                  have hlt4 := RQ.out.co.lt
                  have own1 := (RQ.out.grown (World.grownBy_alloc wq (.cells #[.int .u8 a3, .int .u8 b3, .slice A3 k3 c3] TN) none)).row
                  go_wp2_with (at_builtin; refine wpList_append_own_at _ rfl _ _ 55 rfl (h + 3) TN i0 (.agg #[.int .u8 0, .int .u8 0, .slice none 0 0]) 3 32 Tryz.underlying55 hi0 hz0 hz1 hz2 rfl (by decide) _ j (flat3 ys) rfl own1 ⟨wq.heap.size, 0, none⟩ 1 1 [.int .u8 a3, .int .u8 b3, .slice A3 k3 c3] rfl rfl ?n7_1 ?n7_2 ?n7_3 ?n7_4 ?n7_5 ?_)
                  try case n7_1 => exact cell3_new _ _ _ _ _
                  try case n7_2 => simp [Value.oneCell']
                  try case n7_3 => simp only [maxLen]; omega
                  try case n7_4 => omega
                  try case n7_5 => first | omega | (rw [World.size_alloc]; omega)
                  intro v8 w8 hown8 hg8 _ hat8
                  obtain ⟨A8, k8, c8, rfl⟩ := own_form hown8
                  have RP := (RQ.out.grown (World.grownBy_alloc wq (.cells #[.int .u8 a3, .int .u8 b3, .slice A3 k3 c3] TN) none)).push hown8 hg8 (by rw [World.size_alloc]; exact hat8) (HPQ.out.grown (World.grownBy_alloc wq (.cells #[.int .u8 a3, .int .u8 b3, .slice A3 k3 c3] TN) none))
                  rw [take_snoc5 HKJ.out] at RP
                  have HRP := Lib.hid RP
                  have HO8 := Lib.hid ((RQ.out.co.alloc (.cells #[.int .u8 a3, .int .u8 b3, .slice A3 k3 c3] TN)).grown hg8 (fun e => RQ.out.ap _ e.symm rfl))
                  have s2 := HO8.out.c2
                  have sf := HO8.out.f 2
                  clear RP hown8 hg8 hat8 own1 o2 hlt4
                  go_wp2_with fail
                  go_roundw
                  case rel => exact ⟨j + 1, _, A8, k8, c8, _, by omega, by go_num, rfl, Lib.hid (good12 HGJ.out hgd.out hj0), HRP⟩
                  case measure => simp [intOf]; omega
                · have o2 := RQ.out.co.c2
                  have hlt4 := RQ.out.co.lt
                  have own1 := (RQ.out.grown (World.grownBy_alloc wq (.cells #[.int .u8 a3, .int .u8 b3, .slice A3 k3 c3] TN) none)).row
                  go_wp2_with (at_builtin; refine wpList_append_own_at _ rfl _ _ 55 rfl (h + 3) TN i0 (.agg #[.int .u8 0, .int .u8 0, .slice none 0 0]) 3 32 Tryz.underlying55 hi0 hz0 hz1 hz2 rfl (by decide) _ j (flat3 ys) rfl own1 ⟨wq.heap.size, 0, none⟩ 1 1 [.int .u8 a3, .int .u8 b3, .slice A3 k3 c3] rfl rfl ?n8_1 ?n8_2 ?n8_3 ?n8_4 ?n8_5 ?_)
                  try case n8_1 => exact cell3_new _ _ _ _ _
                  try case n8_2 => simp [Value.oneCell']
                  try case n8_3 => simp only [maxLen]; omega
                  try case n8_4 => omega
                  try case n8_5 => first | omega | (rw [World.size_alloc]; omega)
                  intro v8 w8 hown8 hg8 _ hat8
                  obtain ⟨A8, k8, c8, rfl⟩ := own_form hown8
                  have RP := (RQ.out.grown (World.grownBy_alloc wq (.cells #[.int .u8 a3, .int .u8 b3, .slice A3 k3 c3] TN) none)).push hown8 hg8 (by rw [World.size_alloc]; exact hat8) (HPQ.out.grown (World.grownBy_alloc wq (.cells #[.int .u8 a3, .int .u8 b3, .slice A3 k3 c3] TN) none))
                  rw [take_snoc5 HKJ.out] at RP
                  have HRP := Lib.hid RP
                  have HO8 := Lib.hid ((RQ.out.co.alloc (.cells #[.int .u8 a3, .int .u8 b3, .slice A3 k3 c3] TN)).grown hg8 (fun e => RQ.out.ap _ e.symm rfl))
                  have s2 := HO8.out.c2
                  have sf := HO8.out.f 2
                  clear RP hown8 hg8 hat8 own1 o2 hlt4
                  go_wp2_with fail
                  go_roundw
                  case rel => exact ⟨j + 1, _, A8, k8, c8, _, by omega, by go_num, rfl, Lib.hid (good12 HGJ.out hgd.out hj0), HRP⟩
                  case measure => simp [intOf]; omega

          · cases bb
            · --3
              try clear hjbb
              go_wp2_with fail
              refine HFREE.out.mono ?_
              rintro e wf ⟨rfl, hgf⟩
              have RF := Lib.hid (RP0.out.grown hgf)
              have CF := Lib.hid (CP.out.grown hgf (by simp))
              clear hgf p0 p1 p2 n1p
              have p0 := CF.out.c0
              have p1 := CF.out.c1
              have p2 := CF.out.c2
              have HPF : Hid (SN wf (Apart S h (.slice PA pn pc)) tj (a2, b2, .slice A2 k2 c2)) := Lib.hid (HPJ.out.keep (fun x _ hl => RF.out.gr.block x hl (by simp)) (fun x hx hl => HAP.out wf x RF.out hl hx) _ _)
              cases z
              · have HKJ := Lib.hid (HST.out (.inr HZ.out)).1
                have HGJ := Lib.hid (all_step (HST.out (.inr HZ.out)).2)
                have o2 := RF.out.co.c2
                have hlt4 := RF.out.co.lt
                have own1 := (RF.out.grown (World.grownBy_alloc wf (.cells #[.int .u8 a2, .int .u8 b2, .slice A2 k2 c2] TN) none)).row
                go_wp2_with (at_builtin; refine wpList_append_own_at _ rfl _ _ 55 rfl (h + 3) TN i0 (.agg #[.int .u8 0, .int .u8 0, .slice none 0 0]) 3 32 Tryz.underlying55 hi0 hz0 hz1 hz2 rfl (by decide) _ j (flat3 ys) rfl own1 ⟨wf.heap.size, 0, none⟩ 1 1 [.int .u8 a2, .int .u8 b2, .slice A2 k2 c2] rfl rfl ?n4_1 ?n4_2 ?n4_3 ?n4_4 ?n4_5 ?_)
                try case n4_1 => exact cell3_new _ _ _ _ _
                try case n4_2 => simp [Value.oneCell']
                try case n4_3 => simp only [maxLen]; omega
                try case n4_4 => omega
                try case n4_5 => first | omega | (rw [World.size_alloc]; omega)
                intro v8 w8 hown8 hg8 _ hat8
                obtain ⟨A8, k8, c8, rfl⟩ := own_form hown8
                have RP := (RF.out.grown (World.grownBy_alloc wf (.cells #[.int .u8 a2, .int .u8 b2, .slice A2 k2 c2] TN) none)).push hown8 hg8 (by rw [World.size_alloc]; exact hat8) (HPF.out.grown (World.grownBy_alloc wf (.cells #[.int .u8 a2, .int .u8 b2, .slice A2 k2 c2] TN) none))
                rw [take_snoc5 HKJ.out] at RP
                have HRP := Lib.hid RP
                have HO8 := Lib.hid ((RF.out.co.alloc (.cells #[.int .u8 a2, .int .u8 b2, .slice A2 k2 c2] TN)).grown hg8 (fun e => RF.out.ap _ e.symm rfl))
                have s2 := HO8.out.c2
                have sf := HO8.out.f 2
                clear RP hown8 hg8 hat8 own1 o2 hlt4
                go_wp2_with fail
                go_roundw
                case rel => exact ⟨j + 1, _, A8, k8, c8, _, by omega, by go_num, rfl, Lib.hid (by rw [HGJ.out, ← hgd.out]; simp), HRP⟩
                case measure => simp [intOf]; omega
              · have HREP := (HTN.out HSK.out HZ.out)
                have HKJ := Lib.hid HREP.1
                have HGJ := Lib.hid (all_step HREP.2)
                clear HREP
                have hj0 : ((j : Int) == 0) = false := by (have h1 : j = 1 := (by (rw [beq_iff_eq] at hjb; omega)); rw [beq_eq_false_iff_ne]; omega)
                obtain ⟨oz, hoz⟩ : ∃ oz, (!tj.binds v u) = oz := ⟨_, rfl⟩
                rw [hoz] at HGJ HCALL
                have HOZ := Lib.hid hoz
                clear hoz
                have u0 := RF.out.cu.c0
                have u1 := RF.out.cu.c1
                have u2 := RF.out.cu.c2
                go_wp2_with fail
                refine (HCALL.out wf RF.out.gr (HPJ.out.grown RF.out.gr)).mono ?_
                rintro e w7 ⟨a3, b3, A3, k3, c3, rfl, hg7, hsn7⟩
                have HG7 := Lib.hid hg7
                have HS7 := Lib.hid hsn7
                clear hg7 hsn7 u0 u1 u2 p0 p1 p2
                obtain ⟨wq, hwq⟩ : ∃ wq, w7.alloc (.cells #[.int .u8 a3, .int .u8 b3, .slice A3 k3 c3] TN) = wq := ⟨_, rfl⟩
                obtain ⟨qz, hqz⟩ : ∃ qz, w7.heap.size = qz := ⟨_, rfl⟩
                have gwq : w7.grownBy wq none := by rw [← hwq]; exact World.grownBy_alloc _ _ _
                have RQ := Lib.hid (RF.out.grown (HG7.out.trans gwq))
                have CQ := Lib.hid (show C3 wq qz (.int .u8 a3) (.int .u8 b3) (.slice A3 k3 c3) TN by rw [← hwq, ← hqz]; exact c3_new _ _ _ _ _)
                have HPQ : Hid (SN wq (Apart S h (.slice PA pn pc)) (tj.rep v u) (a3, b3, .slice A3 k3 c3)) := Lib.hid ((HS7.out.grown gwq).keep (fun _ _ _ => rfl) (fun x hx hl => RF.out.apart_new hS hx) _ _)
                have p0 := CQ.out.c0
                have p1 := CQ.out.c1
                have p2 := CQ.out.c2
                have n1p := RQ.out.cn.c1
                clear gwq HS7 HG7
                cases gd
                · have o2 := RQ.out.co.c2
                  have hlt4 := RQ.out.co.lt
                  have own1 := (RQ.out.grown (World.grownBy_alloc wq (.cells #[.int .u8 a3, .int .u8 b3, .slice A3 k3 c3] TN) none)).row
                  go_wp2_with (at_builtin; refine wpList_append_own_at _ rfl _ _ 55 rfl (h + 3) TN i0 (.agg #[.int .u8 0, .int .u8 0, .slice none 0 0]) 3 32 Tryz.underlying55 hi0 hz0 hz1 hz2 rfl (by decide) _ j (flat3 ys) rfl own1 ⟨wq.heap.size, 0, none⟩ 1 1 [.int .u8 a3, .int .u8 b3, .slice A3 k3 c3] rfl rfl ?n9_1 ?n9_2 ?n9_3 ?n9_4 ?n9_5 ?_)
                  try case n9_1 => exact cell3_new _ _ _ _ _
                  try case n9_2 => simp [Value.oneCell']
                  try case n9_3 => simp only [maxLen]; omega
                  try case n9_4 => omega
                  try case n9_5 => first | omega | (rw [World.size_alloc]; omega)
                  intro v8 w8 hown8 hg8 _ hat8
                  obtain ⟨A8, k8, c8, rfl⟩ := own_form hown8
                  have RP := (RQ.out.grown (World.grownBy_alloc wq (.cells #[.int .u8 a3, .int .u8 b3, .slice A3 k3 c3] TN) none)).push hown8 hg8 (by rw [World.size_alloc]; exact hat8) (HPQ.out.grown (World.grownBy_alloc wq (.cells #[.int .u8 a3, .int .u8 b3, .slice A3 k3 c3] TN) none))
                  rw [take_snoc5 HKJ.out] at RP
                  have HRP := Lib.hid RP
                  have HO8 := Lib.hid ((RQ.out.co.alloc (.cells #[.int .u8 a3, .int .u8 b3, .slice A3 k3 c3] TN)).grown hg8 (fun e => RQ.out.ap _ e.symm rfl))
                  have s2 := HO8.out.c2
                  have sf := HO8.out.f 2
                  clear RP hown8 hg8 hat8 own1 o2 hlt4
                  go_wp2_with fail
                  go_roundw
                  case rel => exact ⟨j + 1, _, A8, k8, c8, _, by omega, by go_num, rfl, Lib.hid (good3 HGJ.out hgd.out hj0 (.inl ⟨rfl, rfl⟩)), HRP⟩
                  case measure => simp [intOf]; omega
                · cases oz
                  · have o2 := RQ.out.co.c2
                    have hlt4 := RQ.out.co.lt
                    have own1 := (RQ.out.grown (World.grownBy_alloc wq (.cells #[.int .u8 a3, .int .u8 b3, .slice A3 k3 c3] TN) none)).row
                    go_wp2_with (at_builtin; refine wpList_append_own_at _ rfl _ _ 55 rfl (h + 3) TN i0 (.agg #[.int .u8 0, .int .u8 0, .slice none 0 0]) 3 32 Tryz.underlying55 hi0 hz0 hz1 hz2 rfl (by decide) _ j (flat3 ys) rfl own1 ⟨wq.heap.size, 0, none⟩ 1 1 [.int .u8 a3, .int .u8 b3, .slice A3 k3 c3] rfl rfl ?n10_1 ?n10_2 ?n10_3 ?n10_4 ?n10_5 ?_)
                    try case n10_1 => exact cell3_new _ _ _ _ _
                    try case n10_2 => simp [Value.oneCell']
                    try case n10_3 => simp only [maxLen]; omega
                    try case n10_4 => omega
                    try case n10_5 => first | omega | (rw [World.size_alloc]; omega)
                    intro v8 w8 hown8 hg8 _ hat8
                    obtain ⟨A8, k8, c8, rfl⟩ := own_form hown8
                    have RP := (RQ.out.grown (World.grownBy_alloc wq (.cells #[.int .u8 a3, .int .u8 b3, .slice A3 k3 c3] TN) none)).push hown8 hg8 (by rw [World.size_alloc]; exact hat8) (HPQ.out.grown (World.grownBy_alloc wq (.cells #[.int .u8 a3, .int .u8 b3, .slice A3 k3 c3] TN) none))
                    rw [take_snoc5 HKJ.out] at RP
                    have HRP := Lib.hid RP
                    have HO8 := Lib.hid ((RQ.out.co.alloc (.cells #[.int .u8 a3, .int .u8 b3, .slice A3 k3 c3] TN)).grown hg8 (fun e => RQ.out.ap _ e.symm rfl))
                    have s2 := HO8.out.c2
                    have sf := HO8.out.f 2
                    clear RP hown8 hg8 hat8 own1 o2 hlt4
                    go_wp2_with fail
                    go_roundw
                    case rel => exact ⟨j + 1, _, A8, k8, c8, _, by omega, by go_num, rfl, Lib.hid (good3 HGJ.out hgd.out hj0 (.inr (.inl ⟨rfl, rfl⟩))), HRP⟩
                    case measure => simp [intOf]; omega
                  · by_cases hb0 : b = 0
                    · have hb1 : (b == 0) = true := by simp [hb0]
                      have HB00 := Lib.hid hb0
                      clear hb0
                      have o2 := RQ.out.co.c2
                      have hlt4 := RQ.out.co.lt
                      have own1 := (RQ.out.grown (World.grownBy_alloc wq (.cells #[.int .u8 a3, .int .u8 b3, .slice A3 k3 c3] TN) none)).row
                      go_wp2_with (at_builtin; refine wpList_append_own_at _ rfl _ _ 55 rfl (h + 3) TN i0 (.agg #[.int .u8 0, .int .u8 0, .slice none 0 0]) 3 32 Tryz.underlying55 hi0 hz0 hz1 hz2 rfl (by decide) _ j (flat3 ys) rfl own1 ⟨wq.heap.size, 0, none⟩ 1 1 [.int .u8 a3, .int .u8 b3, .slice A3 k3 c3] rfl rfl ?n11_1 ?n11_2 ?n11_3 ?n11_4 ?n11_5 ?_)
                      try case n11_1 => exact cell3_new _ _ _ _ _
                      try case n11_2 => simp [Value.oneCell']
                      try case n11_3 => simp only [maxLen]; omega
                      try case n11_4 => omega
                      try case n11_5 => first | omega | (rw [World.size_alloc]; omega)
                      intro v8 w8 hown8 hg8 _ hat8
                      obtain ⟨A8, k8, c8, rfl⟩ := own_form hown8
                      have RP := (RQ.out.grown (World.grownBy_alloc wq (.cells #[.int .u8 a3, .int .u8 b3, .slice A3 k3 c3] TN) none)).push hown8 hg8 (by rw [World.size_alloc]; exact hat8) (HPQ.out.grown (World.grownBy_alloc wq (.cells #[.int .u8 a3, .int .u8 b3, .slice A3 k3 c3] TN) none))
                      rw [take_snoc5 HKJ.out] at RP
                      have HRP := Lib.hid RP
                      have HO8 := Lib.hid ((RQ.out.co.alloc (.cells #[.int .u8 a3, .int .u8 b3, .slice A3 k3 c3] TN)).grown hg8 (fun e => RQ.out.ap _ e.symm rfl))
                      have s2 := HO8.out.c2
                      have sf := HO8.out.f 2
                      clear RP hown8 hg8 hat8 own1 o2 hlt4
                      go_wp2_with fail
                      go_roundw
                      case rel => exact ⟨j + 1, _, A8, k8, c8, _, by omega, by go_num, rfl, Lib.hid (good3 HGJ.out hgd.out hj0 (.inr (.inr (.inl ⟨rfl, rfl, HB00.out, rfl⟩)))), HRP⟩
                      case measure => simp [intOf]; omega
                    · have hb1 : (b == 0) = false := by simp [hb0]
                      have hbp : 0 < b := by have := HB0.out; omega
                      have HFU := Lib.hid (sfree_any u.size u S ua ub UA uk uc b wq (Nat.le_refl _) huok hbp (HU.out.grown RQ.out.gr))
                      obtain ⟨fu, hfu⟩ : ∃ fu, u.free b = fu := ⟨_, rfl⟩
                      rw [hfu] at HFU HGJ
                      have u0 := RQ.out.cu.c0
                      have u1 := RQ.out.cu.c1
                      have u2 := RQ.out.cu.c2
                      clear hfu
                      go_wp2_with fail
                      refine HFU.out.mono ?_
                      rintro e w9 ⟨rfl, hg8⟩
                      have R8 := Lib.hid (RQ.out.grown hg8)
                      have C8 := Lib.hid (CQ.out.grown hg8 (by simp))
                      have HP8 := Lib.hid (HPQ.out.grown hg8)
                      clear hg8 u0 u1 u2 p0 p1 p2 n1p
                      have p0 := C8.out.c0
                      have p1 := C8.out.c1
                      have p2 := C8.out.c2
                      cases fu
                      · have o2 := R8.out.co.c2
                        have hlt4 := R8.out.co.lt
                        have own1 := (R8.out.grown (World.grownBy_alloc w9 (.cells #[.int .u8 a3, .int .u8 b3, .slice A3 k3 c3] TN) none)).row
                        go_wp2_with (at_builtin; refine wpList_append_own_at _ rfl _ _ 55 rfl (h + 3) TN i0 (.agg #[.int .u8 0, .int .u8 0, .slice none 0 0]) 3 32 Tryz.underlying55 hi0 hz0 hz1 hz2 rfl (by decide) _ j (flat3 ys) rfl own1 ⟨w9.heap.size, 0, none⟩ 1 1 [.int .u8 a3, .int .u8 b3, .slice A3 k3 c3] rfl rfl ?n12_1 ?n12_2 ?n12_3 ?n12_4 ?n12_5 ?_)
                        try case n12_1 => exact cell3_new _ _ _ _ _
                        try case n12_2 => simp [Value.oneCell']
                        try case n12_3 => simp only [maxLen]; omega
                        try case n12_4 => omega
                        try case n12_5 => first | omega | (rw [World.size_alloc]; omega)
                        intro v8 w8 hown8 hg8 _ hat8
                        obtain ⟨A8, k8, c8, rfl⟩ := own_form hown8
                        have RP := (R8.out.grown (World.grownBy_alloc w9 (.cells #[.int .u8 a3, .int .u8 b3, .slice A3 k3 c3] TN) none)).push hown8 hg8 (by rw [World.size_alloc]; exact hat8) (HP8.out.grown (World.grownBy_alloc w9 (.cells #[.int .u8 a3, .int .u8 b3, .slice A3 k3 c3] TN) none))
                        rw [take_snoc5 HKJ.out] at RP
                        have HRP := Lib.hid RP
                        have HO8 := Lib.hid ((R8.out.co.alloc (.cells #[.int .u8 a3, .int .u8 b3, .slice A3 k3 c3] TN)).grown hg8 (fun e => R8.out.ap _ e.symm rfl))
                        have s2 := HO8.out.c2
                        have sf := HO8.out.f 2
                        clear RP hown8 hg8 hat8 own1 o2 hlt4
                        go_wp2_with fail
                        go_roundw
                        case rel => exact ⟨j + 1, _, A8, k8, c8, _, by omega, by go_num, rfl, Lib.hid (good3 HGJ.out hgd.out hj0 (.inr (.inr (.inr ⟨rfl, rfl, hb0, rfl⟩)))), HRP⟩
                        case measure => simp [intOf]; omega
                      · have o2 := R8.out.co.c2
                        have hlt4 := R8.out.co.lt
                        have own1 := (R8.out.grown (World.grownBy_alloc w9 (.cells #[.int .u8 a3, .int .u8 b3, .slice A3 k3 c3] TN) none)).row
                        go_wp2_with (at_builtin; refine wpList_append_own_at _ rfl _ _ 55 rfl (h + 3) TN i0 (.agg #[.int .u8 0, .int .u8 0, .slice none 0 0]) 3 32 Tryz.underlying55 hi0 hz0 hz1 hz2 rfl (by decide) _ j (flat3 ys) rfl own1 ⟨w9.heap.size, 0, none⟩ 1 1 [.int .u8 a3, .int .u8 b3, .slice A3 k3 c3] rfl rfl ?n13_1 ?n13_2 ?n13_3 ?n13_4 ?n13_5 ?_)
                        try case n13_1 => exact cell3_new _ _ _ _ _
                        try case n13_2 => simp [Value.oneCell']
                        try case n13_3 => simp only [maxLen]; omega
                        try case n13_4 => omega
                        try case n13_5 => first | omega | (rw [World.size_alloc]; omega)
                        intro v8 w8 hown8 hg8 _ hat8
                        obtain ⟨A8, k8, c8, rfl⟩ := own_form hown8
                        have RP := (R8.out.grown (World.grownBy_alloc w9 (.cells #[.int .u8 a3, .int .u8 b3, .slice A3 k3 c3] TN) none)).push hown8 hg8 (by rw [World.size_alloc]; exact hat8) (HP8.out.grown (World.grownBy_alloc w9 (.cells #[.int .u8 a3, .int .u8 b3, .slice A3 k3 c3] TN) none))
                        rw [take_snoc5 HKJ.out] at RP
                        have HRP := Lib.hid RP
                        have HO8 := Lib.hid ((R8.out.co.alloc (.cells #[.int .u8 a3, .int .u8 b3, .slice A3 k3 c3] TN)).grown hg8 (fun e => R8.out.ap _ e.symm rfl))
                        have s2 := HO8.out.c2
                        have sf := HO8.out.f 2
                        clear RP hown8 hg8 hat8 own1 o2 hlt4
                        go_wp2_with fail
                        go_roundw
                        case rel => exact ⟨j + 1, _, A8, k8, c8, _, by omega, by go_num, rfl, Lib.hid (good3 HGJ.out hgd.out hj0 (.inr (.inr (.inr ⟨rfl, rfl, hb0, rfl⟩)))), HRP⟩
                        case measure => simp [intOf]; omega

            · cases hjbb
      · have hjk : j = k := by omega
        have HJK := Lib.hid hjk
        have HRS := hrs
        obtain ⟨PV, hPV⟩ : ∃ x, Value.slice PA pn pc = x := ⟨_, rfl⟩
        have c0 := hrs.out.co.c0
        have c1 := hrs.out.co.c1
        have c2 := hrs.out.co.c2
        have r0 := hrs.out.cr.c0
        have r1 := hrs.out.cr.c1
        have r2 := hrs.out.cr.c2
        have f0 := hrs.out.cr.f 0
        have f1 := hrs.out.cr.f 1
        have f2 := hrs.out.cr.f 2
        have HEND := Lib.hid (hrs.out.ended hS)
        have HC3 := Lib.hid (hrs.out.cr.laid (x' := .int .u8 a) (y' := .int .u8 b) (z' := .slice PA pn pc))
        have hgd2 : Hid (gd = res) := Lib.hid (by
          rw [hgd.out, HJK.out, List.take_of_length_le (by rw [HGLL.out, HLEN.out, HKL.out]; exact Nat.le_refl _), HGL.out, HRES.out])
        have hks : Hid ((repK t v u).take j = repK t v u) := Lib.hid (by rw [HJK.out, List.take_of_length_le (by rw [HRKL.out, HLEN.out, HKL.out]; exact Nat.le_refl _)])
        clear hjk hPV hrs
        go_wp2_with fail
        clear c0 c1 c2 r0 r1 r2 f0 f1 f2
        have n0 := HC3.out.c0
        have n1 := HC3.out.c1
        have n2 := HC3.out.c2
        unfold laid3 at n0 n1 n2
        refine bodyPost_ret (v := .tuple #[.agg #[.int .u8 a, .int .u8 b, .slice PA pn pc], .bool gd]) (by simp [results, Tryz.results30, go_sem, n0, n1, n2]) rfl ?_
        obtain ⟨e1, e2, e3, e4⟩ := HEND.out
        rw [hks.out] at e3
        exact ⟨_, _, _, _, _, by rw [hgd2.out], e4, HSN.out _ _ _ _ e1 e2 e3⟩
  · --2
    try have hbv := HH9 rfl
    clear HH9
    go_enter Tryz.func30, Tryz.ntmps30
    go_wp2_with fail
    go_loopw [9, 33] (fun q i wr => ∃ (j : Nat) (gd : Bool) (PA : Option Addr) (pn pc : Nat) (ys : List (Int × Int × Value)), j ≤ k ∧ i = .int .i64 j ∧ q = .bool gd ∧ Hid (gd = ((gdL t v u).take j).all id) ∧ Hid (RS S h w wr a b (.slice A k c) ua ub (.slice UA uk uc) (.slice PA pn pc) j ((repK t v u).take j) ys)) (fun _ i _ => k - (intOf i).toNat)
    case atStart => exact ⟨0, true, some ⟨h + 3, 0, none⟩, 0, 0, [], Nat.zero_le _, rfl, rfl, Lib.hid rfl, HR5⟩
    case round =>
      obtain ⟨j, gd, PA, pn, pc, ys, hj, rfl, rfl, hgd, hrs⟩ := hrel
      by_cases hlt : j < k
      · obtain ⟨gA, rfl, hgA, hcell⟩ := HROW.out (by omega)
        obtain ⟨tj, ⟨a2, b2, sv2⟩, htj, hxj, hpj⟩ := HA.out.get (j := j) (by have := HKL.out; omega)
        obtain ⟨A2, k2, c2, hsv⟩ := hpj.form
        simp only at hsv
        subst hsv
        obtain ⟨q0, q1, q2⟩ := hcell j _ hxj
        have hc0 := hrs.out.gr.cell q0 (by simp)
        have hc1 := hrs.out.gr.cell q1 (by simp)
        have hc2 := hrs.out.gr.cell q2 (by simp)
        have HST := Lib.hid (fun hs => HSTAY.out j tj htj hs)
        have HTN := Lib.hid (fun hs hf => HTURN.out j tj htj hs hf)
        have htok : tj.Ok := kids_ok' HOK.out (List.mem_of_getElem? htj)
        have HCALL := Lib.hid (HI.out tj (List.mem_of_getElem? htj) a2 b2 A2 k2 c2)
        have HPJ := Lib.hid hpj
        obtain ⟨wp, hwp⟩ : ∃ wp, wr.alloc (.cells #[.int .u8 a2, .int .u8 b2, .slice A2 k2 c2] TN) = wp := ⟨_, rfl⟩
        obtain ⟨pz, hpz⟩ : ∃ pz, wr.heap.size = pz := ⟨_, rfl⟩
        have gwp : wr.grownBy wp none := by rw [← hwp]; exact World.grownBy_alloc _ _ _
        have RP0 := Lib.hid (hrs.out.grown gwp)
        have CP := Lib.hid (show C3 wp pz (.int .u8 a2) (.int .u8 b2) (.slice A2 k2 c2) TN by rw [← hwp, ← hpz]; exact c3_new _ _ _ _ _)
        have HAP : Hid (∀ (w' : World) (x : Nat), RS S h w w' a b (.slice (some ⟨gA, 0, none⟩) k c) ua ub (.slice UA uk uc) (.slice PA pn pc) j ((repK t v u).take j) ys → x < w.heap.size → S x → Apart S h (.slice PA pn pc) x) := Lib.hid (fun w' x r hx hs => ⟨.inl hs, by omega, fun g hg e => by have := (r.row.lt g hg).1; omega⟩)
        have n1p := RP0.out.cn.c1
        have p0 := CP.out.c0
        have p1 := CP.out.c1
        have p2 := CP.out.c2
        have HFREE := Lib.hid (sfree_any tj.size tj S a2 b2 A2 k2 c2 v wp (Nat.le_refl _) htok hv0 (hpj.grown RP0.out.gr))
        obtain ⟨z, hz⟩ : ∃ z, tj.free v = z := ⟨_, rfl⟩
        rw [hz] at HFREE
        have HZ := Lib.hid hz
        clear htj hxj hpj q0 q1 q2 hcell hz gwp htok
        by_cases hskip : j = 1 ∧ b = v
        · obtain ⟨hj1, rfl⟩ := hskip
          subst hj1
          have hbb : (b == b) = true := by simp
          have HKJ := Lib.hid (HST.out (.inl ⟨rfl, rfl⟩)).1
          have HGJ := Lib.hid (all_step (HST.out (.inl ⟨rfl, rfl⟩)).2)
          have HPA : Hid (SN wp (Apart S h (.slice PA pn pc)) tj (a2, b2, .slice A2 k2 c2)) := Lib.hid (HPJ.out.keep (fun x _ hl => RP0.out.gr.block x hl (by simp)) (fun x hx hl => HAP.out wp x RP0.out hl hx) _ _)
          have o2 := RP0.out.co.c2
          have hlt4 := RP0.out.co.lt
          have own1 := (RP0.out.grown (World.grownBy_alloc wp (.cells #[.int .u8 a2, .int .u8 b2, .slice A2 k2 c2] TN) none)).row
          go_wp2_with (at_builtin; refine wpList_append_own_at _ rfl _ _ 55 rfl (h + 3) TN i0 (.agg #[.int .u8 0, .int .u8 0, .slice none 0 0]) 3 32 Tryz.underlying55 hi0 hz0 hz1 hz2 rfl (by decide) _ 1 (flat3 ys) rfl own1 ⟨wp.heap.size, 0, none⟩ 1 1 [.int .u8 a2, .int .u8 b2, .slice A2 k2 c2] rfl rfl ?n14_1 ?n14_2 ?n14_3 ?n14_4 ?n14_5 ?_)
          try case n14_1 => exact cell3_new _ _ _ _ _
          try case n14_2 => simp [Value.oneCell']
          try case n14_3 => simp only [maxLen]; omega
          try case n14_4 => omega
          try case n14_5 => first | omega | (rw [World.size_alloc]; omega)
          intro v8 w8 hown8 hg8 _ hat8
          obtain ⟨A8, k8, c8, rfl⟩ := own_form hown8
          have RP := (RP0.out.grown (World.grownBy_alloc wp (.cells #[.int .u8 a2, .int .u8 b2, .slice A2 k2 c2] TN) none)).push hown8 hg8 (by rw [World.size_alloc]; exact hat8) (HPA.out.grown (World.grownBy_alloc wp (.cells #[.int .u8 a2, .int .u8 b2, .slice A2 k2 c2] TN) none))
          rw [take_snoc5 HKJ.out] at RP
          have HRP := Lib.hid RP
          have HO8 := Lib.hid ((RP0.out.co.alloc (.cells #[.int .u8 a2, .int .u8 b2, .slice A2 k2 c2] TN)).grown hg8 (fun e => RP0.out.ap _ e.symm rfl))
          have s2 := HO8.out.c2
          have sf := HO8.out.f 2
          clear RP hown8 hg8 hat8 own1 o2 hlt4
          go_wp2_with fail
          go_roundw
          case rel => exact ⟨1 + 1, _, A8, k8, c8, _, by omega, by go_num, rfl, Lib.hid (by rw [HGJ.out, ← hgd.out]; simp), HRP⟩
          case measure => simp [intOf]; omega
        · obtain ⟨jb, hjb⟩ : ∃ x, ((j : Int) == 1) = x := ⟨_, rfl⟩
          obtain ⟨bb, hbb⟩ : ∃ x, (b == v) = x := ⟨_, rfl⟩
          have hjbb : (jb && bb) = false := by
            rw [← hjb, ← hbb]
            cases h1 : ((j : Int) == 1) <;> cases h2 : (b == v) <;> try rfl
            rw [beq_iff_eq] at h1 h2
            exact absurd ⟨by omega, h2⟩ hskip
          have HSK := Lib.hid hskip
          clear hskip
          cases jb
          · cases bb
            · --1
              try clear hjbb
              go_wp2_with fail
              refine HFREE.out.mono ?_
              rintro e wf ⟨rfl, hgf⟩
              have RF := Lib.hid (RP0.out.grown hgf)
              have CF := Lib.hid (CP.out.grown hgf (by simp))
              clear hgf p0 p1 p2 n1p
              have p0 := CF.out.c0
              have p1 := CF.out.c1
              have p2 := CF.out.c2
              have HPF : Hid (SN wf (Apart S h (.slice PA pn pc)) tj (a2, b2, .slice A2 k2 c2)) := Lib.hid (HPJ.out.keep (fun x _ hl => RF.out.gr.block x hl (by simp)) (fun x hx hl => HAP.out wf x RF.out hl hx) _ _)
              cases z
              · have HKJ := Lib.hid (HST.out (.inr HZ.out)).1
                have HGJ := Lib.hid (all_step (HST.out (.inr HZ.out)).2)
                have o2 := RF.out.co.c2
                have hlt4 := RF.out.co.lt
                have own1 := (RF.out.grown (World.grownBy_alloc wf (.cells #[.int .u8 a2, .int .u8 b2, .slice A2 k2 c2] TN) none)).row
                go_wp2_with (at_builtin; refine wpList_append_own_at _ rfl _ _ 55 rfl (h + 3) TN i0 (.agg #[.int .u8 0, .int .u8 0, .slice none 0 0]) 3 32 Tryz.underlying55 hi0 hz0 hz1 hz2 rfl (by decide) _ j (flat3 ys) rfl own1 ⟨wf.heap.size, 0, none⟩ 1 1 [.int .u8 a2, .int .u8 b2, .slice A2 k2 c2] rfl rfl ?n15_1 ?n15_2 ?n15_3 ?n15_4 ?n15_5 ?_)
                try case n15_1 => exact cell3_new _ _ _ _ _
                try case n15_2 => simp [Value.oneCell']
                try case n15_3 => simp only [maxLen]; omega
                try case n15_4 => omega
                try case n15_5 => first | omega | (rw [World.size_alloc]; omega)
                intro v8 w8 hown8 hg8 _ hat8
                obtain ⟨A8, k8, c8, rfl⟩ := own_form hown8
                have RP := (RF.out.grown (World.grownBy_alloc wf (.cells #[.int .u8 a2, .int .u8 b2, .slice A2 k2 c2] TN) none)).push hown8 hg8 (by rw [World.size_alloc]; exact hat8) (HPF.out.grown (World.grownBy_alloc wf (.cells #[.int .u8 a2, .int .u8 b2, .slice A2 k2 c2] TN) none))
                rw [take_snoc5 HKJ.out] at RP
                have HRP := Lib.hid RP
                have HO8 := Lib.hid ((RF.out.co.alloc (.cells #[.int .u8 a2, .int .u8 b2, .slice A2 k2 c2] TN)).grown hg8 (fun e => RF.out.ap _ e.symm rfl))
                have s2 := HO8.out.c2
                have sf := HO8.out.f 2
                clear RP hown8 hg8 hat8 own1 o2 hlt4
                go_wp2_with fail
                go_roundw
                case rel => exact ⟨j + 1, _, A8, k8, c8, _, by omega, by go_num, rfl, Lib.hid (by rw [HGJ.out, ← hgd.out]; simp), HRP⟩
                case measure => simp [intOf]; omega
              · have HREP := (HTN.out HSK.out HZ.out)
                have HKJ := Lib.hid HREP.1
                have HGJ := Lib.hid (all_step HREP.2)
                clear HREP
                have hj0 : ((j : Int) == 0) = true := by (have h1 : ¬ j = 1 := (fun e => by (subst e; simp at hjb)); rw [beq_iff_eq]; omega)
                obtain ⟨oz, hoz⟩ : ∃ oz, (!tj.binds v u) = oz := ⟨_, rfl⟩
                rw [hoz] at HGJ HCALL
                have HOZ := Lib.hid hoz
                clear hoz
                have u0 := RF.out.cu.c0
                have u1 := RF.out.cu.c1
                have u2 := RF.out.cu.c2
                go_wp2_with fail
                refine (HCALL.out wf RF.out.gr (HPJ.out.grown RF.out.gr)).mono ?_
                rintro e w7 ⟨a3, b3, A3, k3, c3, rfl, hg7, hsn7⟩
                have HG7 := Lib.hid hg7
                have HS7 := Lib.hid hsn7
                clear hg7 hsn7 u0 u1 u2 p0 p1 p2
                obtain ⟨wq, hwq⟩ : ∃ wq, w7.alloc (.cells #[.int .u8 a3, .int .u8 b3, .slice A3 k3 c3] TN) = wq := ⟨_, rfl⟩
                obtain ⟨qz, hqz⟩ : ∃ qz, w7.heap.size = qz := ⟨_, rfl⟩
                have gwq : w7.grownBy wq none := by rw [← hwq]; exact World.grownBy_alloc _ _ _
                have RQ := Lib.hid (RF.out.grown (HG7.out.trans gwq))
                have CQ := Lib.hid (show C3 wq qz (.int .u8 a3) (.int .u8 b3) (.slice A3 k3 c3) TN by rw [← hwq, ← hqz]; exact c3_new _ _ _ _ _)
                have HPQ : Hid (SN wq (Apart S h (.slice PA pn pc)) (tj.rep v u) (a3, b3, .slice A3 k3 c3)) := Lib.hid ((HS7.out.grown gwq).keep (fun _ _ _ => rfl) (fun x hx hl => RF.out.apart_new hS hx) _ _)
                have p0 := CQ.out.c0
                have p1 := CQ.out.c1
                have p2 := CQ.out.c2
                have n1p := RQ.out.cn.c1
                clear gwq HS7 HG7
                have hgt : gd = true := by
                  have hj9 : j = 0 := by (rw [beq_iff_eq] at hj0; omega)
                  rw [hgd.out, hj9]; simp
                subst hgt
                cases oz
                · have o2 := RQ.out.co.c2
                  have hlt4 := RQ.out.co.lt
                  have own1 := (RQ.out.grown (World.grownBy_alloc wq (.cells #[.int .u8 a3, .int .u8 b3, .slice A3 k3 c3] TN) none)).row
                  go_wp2_with (at_builtin; refine wpList_append_own_at _ rfl _ _ 55 rfl (h + 3) TN i0 (.agg #[.int .u8 0, .int .u8 0, .slice none 0 0]) 3 32 Tryz.underlying55 hi0 hz0 hz1 hz2 rfl (by decide) _ j (flat3 ys) rfl own1 ⟨wq.heap.size, 0, none⟩ 1 1 [.int .u8 a3, .int .u8 b3, .slice A3 k3 c3] rfl rfl ?n18_1 ?n18_2 ?n18_3 ?n18_4 ?n18_5 ?_)
                  try case n18_1 => exact cell3_new _ _ _ _ _
                  try case n18_2 => simp [Value.oneCell']
                  try case n18_3 => simp only [maxLen]; omega
                  try case n18_4 => omega
                  try case n18_5 => first | omega | (rw [World.size_alloc]; omega)
                  intro v8 w8 hown8 hg8 _ hat8
                  obtain ⟨A8, k8, c8, rfl⟩ := own_form hown8
                  have RP := (RQ.out.grown (World.grownBy_alloc wq (.cells #[.int .u8 a3, .int .u8 b3, .slice A3 k3 c3] TN) none)).push hown8 hg8 (by rw [World.size_alloc]; exact hat8) (HPQ.out.grown (World.grownBy_alloc wq (.cells #[.int .u8 a3, .int .u8 b3, .slice A3 k3 c3] TN) none))
                  rw [take_snoc5 HKJ.out] at RP
                  have HRP := Lib.hid RP
                  have HO8 := Lib.hid ((RQ.out.co.alloc (.cells #[.int .u8 a3, .int .u8 b3, .slice A3 k3 c3] TN)).grown hg8 (fun e => RQ.out.ap _ e.symm rfl))
                  have s2 := HO8.out.c2
                  have sf := HO8.out.f 2
                  clear RP hown8 hg8 hat8 own1 o2 hlt4
                  go_wp2_with fail
                  go_roundw
                  case rel => exact ⟨j + 1, _, A8, k8, c8, _, by omega, by go_num, rfl, Lib.hid (good12 HGJ.out hgd.out hj0), HRP⟩
                  case measure => simp [intOf]; omega
                · have o2 := RQ.out.co.c2
                  have hlt4 := RQ.out.co.lt
                  have own1 := (RQ.out.grown (World.grownBy_alloc wq (.cells #[.int .u8 a3, .int .u8 b3, .slice A3 k3 c3] TN) none)).row
                  go_wp2_with (at_builtin; refine wpList_append_own_at _ rfl _ _ 55 rfl (h + 3) TN i0 (.agg #[.int .u8 0, .int .u8 0, .slice none 0 0]) 3 32 Tryz.underlying55 hi0 hz0 hz1 hz2 rfl (by decide) _ j (flat3 ys) rfl own1 ⟨wq.heap.size, 0, none⟩ 1 1 [.int .u8 a3, .int .u8 b3, .slice A3 k3 c3] rfl rfl ?n19_1 ?n19_2 ?n19_3 ?n19_4 ?n19_5 ?_)
                  try case n19_1 => exact cell3_new _ _ _ _ _
                  try case n19_2 => simp [Value.oneCell']
                  try case n19_3 => simp only [maxLen]; omega
                  try case n19_4 => omega
                  try case n19_5 => first | omega | (rw [World.size_alloc]; omega)
                  intro v8 w8 hown8 hg8 _ hat8
                  obtain ⟨A8, k8, c8, rfl⟩ := own_form hown8
                  have RP := (RQ.out.grown (World.grownBy_alloc wq (.cells #[.int .u8 a3, .int .u8 b3, .slice A3 k3 c3] TN) none)).push hown8 hg8 (by rw [World.size_alloc]; exact hat8) (HPQ.out.grown (World.grownBy_alloc wq (.cells #[.int .u8 a3, .int .u8 b3, .slice A3 k3 c3] TN) none))
                  rw [take_snoc5 HKJ.out] at RP
                  have HRP := Lib.hid RP
                  have HO8 := Lib.hid ((RQ.out.co.alloc (.cells #[.int .u8 a3, .int .u8 b3, .slice A3 k3 c3] TN)).grown hg8 (fun e => RQ.out.ap _ e.symm rfl))
                  have s2 := HO8.out.c2
                  have sf := HO8.out.f 2
                  clear RP hown8 hg8 hat8 own1 o2 hlt4
                  go_wp2_with fail
                  go_roundw
                  case rel => exact ⟨j + 1, _, A8, k8, c8, _, by omega, by go_num, rfl, Lib.hid (good12 HGJ.out hgd.out hj0), HRP⟩
                  case measure => simp [intOf]; omega

            · --2
              try clear hjbb
              go_wp2_with fail
              refine HFREE.out.mono ?_
              rintro e wf ⟨rfl, hgf⟩
              have RF := Lib.hid (RP0.out.grown hgf)
              have CF := Lib.hid (CP.out.grown hgf (by simp))
              clear hgf p0 p1 p2 n1p
              have p0 := CF.out.c0
              have p1 := CF.out.c1
              have p2 := CF.out.c2
              have HPF : Hid (SN wf (Apart S h (.slice PA pn pc)) tj (a2, b2, .slice A2 k2 c2)) := Lib.hid (HPJ.out.keep (fun x _ hl => RF.out.gr.block x hl (by simp)) (fun x hx hl => HAP.out wf x RF.out hl hx) _ _)
              cases z
              · have HKJ := Lib.hid (HST.out (.inr HZ.out)).1
                have HGJ := Lib.hid (all_step (HST.out (.inr HZ.out)).2)
                have o2 := RF.out.co.c2
                have hlt4 := RF.out.co.lt
                have own1 := (RF.out.grown (World.grownBy_alloc wf (.cells #[.int .u8 a2, .int .u8 b2, .slice A2 k2 c2] TN) none)).row
                go_wp2_with (at_builtin; refine wpList_append_own_at _ rfl _ _ 55 rfl (h + 3) TN i0 (.agg #[.int .u8 0, .int .u8 0, .slice none 0 0]) 3 32 Tryz.underlying55 hi0 hz0 hz1 hz2 rfl (by decide) _ j (flat3 ys) rfl own1 ⟨wf.heap.size, 0, none⟩ 1 1 [.int .u8 a2, .int .u8 b2, .slice A2 k2 c2] rfl rfl ?n16_1 ?n16_2 ?n16_3 ?n16_4 ?n16_5 ?_)
                try case n16_1 => exact cell3_new _ _ _ _ _
                try case n16_2 => simp [Value.oneCell']
                try case n16_3 => simp only [maxLen]; omega
                try case n16_4 => omega
                try case n16_5 => first | omega | (rw [World.size_alloc]; omega)
                intro v8 w8 hown8 hg8 _ hat8
                obtain ⟨A8, k8, c8, rfl⟩ := own_form hown8
                have RP := (RF.out.grown (World.grownBy_alloc wf (.cells #[.int .u8 a2, .int .u8 b2, .slice A2 k2 c2] TN) none)).push hown8 hg8 (by rw [World.size_alloc]; exact hat8) (HPF.out.grown (World.grownBy_alloc wf (.cells #[.int .u8 a2, .int .u8 b2, .slice A2 k2 c2] TN) none))
                rw [take_snoc5 HKJ.out] at RP
                have HRP := Lib.hid RP
                have HO8 := Lib.hid ((RF.out.co.alloc (.cells #[.int .u8 a2, .int .u8 b2, .slice A2 k2 c2] TN)).grown hg8 (fun e => RF.out.ap _ e.symm rfl))
                have s2 := HO8.out.c2
                have sf := HO8.out.f 2
                clear RP hown8 hg8 hat8 own1 o2 hlt4
                go_wp2_with fail
                go_roundw
                case rel => exact ⟨j + 1, _, A8, k8, c8, _, by omega, by go_num, rfl, Lib.hid (by rw [HGJ.out, ← hgd.out]; simp), HRP⟩
                case measure => simp [intOf]; omega
              · have HREP := (HTN.out HSK.out HZ.out)
                have HKJ := Lib.hid HREP.1
                have HGJ := Lib.hid (all_step HREP.2)
                clear HREP
                have hj0 : ((j : Int) == 0) = true := by (have h1 : ¬ j = 1 := (fun e => by (subst e; simp at hjb)); rw [beq_iff_eq]; omega)
                obtain ⟨oz, hoz⟩ : ∃ oz, (!tj.binds v u) = oz := ⟨_, rfl⟩
                rw [hoz] at HGJ HCALL
                have HOZ := Lib.hid hoz
                clear hoz
                have u0 := RF.out.cu.c0
                have u1 := RF.out.cu.c1
                have u2 := RF.out.cu.c2
                go_wp2_with fail
                refine (HCALL.out wf RF.out.gr (HPJ.out.grown RF.out.gr)).mono ?_
                rintro e w7 ⟨a3, b3, A3, k3, c3, rfl, hg7, hsn7⟩
                have HG7 := Lib.hid hg7
                have HS7 := Lib.hid hsn7
                clear hg7 hsn7 u0 u1 u2 p0 p1 p2
                obtain ⟨wq, hwq⟩ : ∃ wq, w7.alloc (.cells #[.int .u8 a3, .int .u8 b3, .slice A3 k3 c3] TN) = wq := ⟨_, rfl⟩
                obtain ⟨qz, hqz⟩ : ∃ qz, w7.heap.size = qz := ⟨_, rfl⟩
                have gwq : w7.grownBy wq none := by rw [← hwq]; exact World.grownBy_alloc _ _ _
                have RQ := Lib.hid (RF.out.grown (HG7.out.trans gwq))
                have CQ := Lib.hid (show C3 wq qz (.int .u8 a3) (.int .u8 b3) (.slice A3 k3 c3) TN by rw [← hwq, ← hqz]; exact c3_new _ _ _ _ _)
                have HPQ : Hid (SN wq (Apart S h (.slice PA pn pc)) (tj.rep v u) (a3, b3, .slice A3 k3 c3)) := Lib.hid ((HS7.out.grown gwq).keep (fun _ _ _ => rfl) (fun x hx hl => RF.out.apart_new hS hx) _ _)
                have p0 := CQ.out.c0
                have p1 := CQ.out.c1
                have p2 := CQ.out.c2
                have n1p := RQ.out.cn.c1
                clear gwq HS7 HG7
                have hgt : gd = true := by
                  have hj9 : j = 0 := by (rw [beq_iff_eq] at hj0; omega)
                  rw [hgd.out, hj9]; simp
                subst hgt
                cases oz
                · have o2 := RQ.out.co.c2
                  have hlt4 := RQ.out.co.lt
                  have own1 := (RQ.out.grown (World.grownBy_alloc wq (.cells #[.int .u8 a3, .int .u8 b3, .slice A3 k3 c3] TN) none)).row
                  go_wp2_with (at_builtin; refine wpList_append_own_at _ rfl _ _ 55 rfl (h + 3) TN i0 (.agg #[.int .u8 0, .int .u8 0, .slice none 0 0]) 3 32 Tryz.underlying55 hi0 hz0 hz1 hz2 rfl (by decide) _ j (flat3 ys) rfl own1 ⟨wq.heap.size, 0, none⟩ 1 1 [.int .u8 a3, .int .u8 b3, .slice A3 k3 c3] rfl rfl ?n20_1 ?n20_2 ?n20_3 ?n20_4 ?n20_5 ?_)
                  try case n20_1 => exact cell3_new _ _ _ _ _
                  try case n20_2 => simp [Value.oneCell']
                  try case n20_3 => simp only [maxLen]; omega
                  try case n20_4 => omega
                  try case n20_5 => first | omega | (rw [World.size_alloc]; omega)
                  intro v8 w8 hown8 hg8 _ hat8
                  obtain ⟨A8, k8, c8, rfl⟩ := own_form hown8
                  have RP := (RQ.out.grown (World.grownBy_alloc wq (.cells #[.int .u8 a3, .int .u8 b3, .slice A3 k3 c3] TN) none)).push hown8 hg8 (by rw [World.size_alloc]; exact hat8) (HPQ.out.grown (World.grownBy_alloc wq (.cells #[.int .u8 a3, .int .u8 b3, .slice A3 k3 c3] TN) none))
                  rw [take_snoc5 HKJ.out] at RP
                  have HRP := Lib.hid RP
                  have HO8 := Lib.hid ((RQ.out.co.alloc (.cells #[.int .u8 a3, .int .u8 b3, .slice A3 k3 c3] TN)).grown hg8 (fun e => RQ.out.ap _ e.symm rfl))
                  have s2 := HO8.out.c2
                  have sf := HO8.out.f 2
                  clear RP hown8 hg8 hat8 own1 o2 hlt4
                  go_wp2_with fail
                  go_roundw
                  case rel => exact ⟨j + 1, _, A8, k8, c8, _, by omega, by go_num, rfl, Lib.hid (good12 HGJ.out hgd.out hj0), HRP⟩
                  case measure => simp [intOf]; omega
                · have o2 := RQ.out.co.c2
                  have hlt4 := RQ.out.co.lt
                  have own1 := (RQ.out.grown (World.grownBy_alloc wq (.cells #[.int .u8 a3, .int .u8 b3, .slice A3 k3 c3] TN) none)).row
                  go_wp2_with (at_builtin; refine wpList_append_own_at _ rfl _ _ 55 rfl (h + 3) TN i0 (.agg #[.int .u8 0, .int .u8 0, .slice none 0 0]) 3 32 Tryz.underlying55 hi0 hz0 hz1 hz2 rfl (by decide) _ j (flat3 ys) rfl own1 ⟨wq.heap.size, 0, none⟩ 1 1 [.int .u8 a3, .int .u8 b3, .slice A3 k3 c3] rfl rfl ?n21_1 ?n21_2 ?n21_3 ?n21_4 ?n21_5 ?_)
                  try case n21_1 => exact cell3_new _ _ _ _ _
                  try case n21_2 => simp [Value.oneCell']
                  try case n21_3 => simp only [maxLen]; omega
                  try case n21_4 => omega
                  try case n21_5 => first | omega | (rw [World.size_alloc]; omega)
                  intro v8 w8 hown8 hg8 _ hat8
                  obtain ⟨A8, k8, c8, rfl⟩ := own_form hown8
                  have RP := (RQ.out.grown (World.grownBy_alloc wq (.cells #[.int .u8 a3, .int .u8 b3, .slice A3 k3 c3] TN) none)).push hown8 hg8 (by rw [World.size_alloc]; exact hat8) (HPQ.out.grown (World.grownBy_alloc wq (.cells #[.int .u8 a3, .int .u8 b3, .slice A3 k3 c3] TN) none))
                  rw [take_snoc5 HKJ.out] at RP
                  have HRP := Lib.hid RP
                  have HO8 := Lib.hid ((RQ.out.co.alloc (.cells #[.int .u8 a3, .int .u8 b3, .slice A3 k3 c3] TN)).grown hg8 (fun e => RQ.out.ap _ e.symm rfl))
                  have s2 := HO8.out.c2
                  have sf := HO8.out.f 2
                  clear RP hown8 hg8 hat8 own1 o2 hlt4
                  go_wp2_with fail
                  go_roundw
                  case rel => exact ⟨j + 1, _, A8, k8, c8, _, by omega, by go_num, rfl, Lib.hid (good12 HGJ.out hgd.out hj0), HRP⟩
                  case measure => simp [intOf]; omega

          · cases bb
            · --3
              try clear hjbb
              go_wp2_with fail
              refine HFREE.out.mono ?_
              rintro e wf ⟨rfl, hgf⟩
              have RF := Lib.hid (RP0.out.grown hgf)
              have CF := Lib.hid (CP.out.grown hgf (by simp))
              clear hgf p0 p1 p2 n1p
              have p0 := CF.out.c0
              have p1 := CF.out.c1
              have p2 := CF.out.c2
              have HPF : Hid (SN wf (Apart S h (.slice PA pn pc)) tj (a2, b2, .slice A2 k2 c2)) := Lib.hid (HPJ.out.keep (fun x _ hl => RF.out.gr.block x hl (by simp)) (fun x hx hl => HAP.out wf x RF.out hl hx) _ _)
              cases z
              · have HKJ := Lib.hid (HST.out (.inr HZ.out)).1
                have HGJ := Lib.hid (all_step (HST.out (.inr HZ.out)).2)
                have o2 := RF.out.co.c2
                have hlt4 := RF.out.co.lt
                have own1 := (RF.out.grown (World.grownBy_alloc wf (.cells #[.int .u8 a2, .int .u8 b2, .slice A2 k2 c2] TN) none)).row
                go_wp2_with (at_builtin; refine wpList_append_own_at _ rfl _ _ 55 rfl (h + 3) TN i0 (.agg #[.int .u8 0, .int .u8 0, .slice none 0 0]) 3 32 Tryz.underlying55 hi0 hz0 hz1 hz2 rfl (by decide) _ j (flat3 ys) rfl own1 ⟨wf.heap.size, 0, none⟩ 1 1 [.int .u8 a2, .int .u8 b2, .slice A2 k2 c2] rfl rfl ?n17_1 ?n17_2 ?n17_3 ?n17_4 ?n17_5 ?_)
                try case n17_1 => exact cell3_new _ _ _ _ _
                try case n17_2 => simp [Value.oneCell']
                try case n17_3 => simp only [maxLen]; omega
                try case n17_4 => omega
                try case n17_5 => first | omega | (rw [World.size_alloc]; omega)
                intro v8 w8 hown8 hg8 _ hat8
                obtain ⟨A8, k8, c8, rfl⟩ := own_form hown8
                have RP := (RF.out.grown (World.grownBy_alloc wf (.cells #[.int .u8 a2, .int .u8 b2, .slice A2 k2 c2] TN) none)).push hown8 hg8 (by rw [World.size_alloc]; exact hat8) (HPF.out.grown (World.grownBy_alloc wf (.cells #[.int .u8 a2, .int .u8 b2, .slice A2 k2 c2] TN) none))
                rw [take_snoc5 HKJ.out] at RP
                have HRP := Lib.hid RP
                have HO8 := Lib.hid ((RF.out.co.alloc (.cells #[.int .u8 a2, .int .u8 b2, .slice A2 k2 c2] TN)).grown hg8 (fun e => RF.out.ap _ e.symm rfl))
                have s2 := HO8.out.c2
                have sf := HO8.out.f 2
                clear RP hown8 hg8 hat8 own1 o2 hlt4
                go_wp2_with fail
                go_roundw
                case rel => exact ⟨j + 1, _, A8, k8, c8, _, by omega, by go_num, rfl, Lib.hid (by rw [HGJ.out, ← hgd.out]; simp), HRP⟩
                case measure => simp [intOf]; omega
              · have HREP := (HTN.out HSK.out HZ.out)
                have HKJ := Lib.hid HREP.1
                have HGJ := Lib.hid (all_step HREP.2)
                clear HREP
                have hj0 : ((j : Int) == 0) = false := by (have h1 : j = 1 := (by (rw [beq_iff_eq] at hjb; omega)); rw [beq_eq_false_iff_ne]; omega)
                obtain ⟨oz, hoz⟩ : ∃ oz, (!tj.binds v u) = oz := ⟨_, rfl⟩
                rw [hoz] at HGJ HCALL
                have HOZ := Lib.hid hoz
                clear hoz
                have u0 := RF.out.cu.c0
                have u1 := RF.out.cu.c1
                have u2 := RF.out.cu.c2
                go_wp2_with fail
                refine (HCALL.out wf RF.out.gr (HPJ.out.grown RF.out.gr)).mono ?_
                rintro e w7 ⟨a3, b3, A3, k3, c3, rfl, hg7, hsn7⟩
                have HG7 := Lib.hid hg7
                have HS7 := Lib.hid hsn7
                clear hg7 hsn7 u0 u1 u2 p0 p1 p2
                obtain ⟨wq, hwq⟩ : ∃ wq, w7.alloc (.cells #[.int .u8 a3, .int .u8 b3, .slice A3 k3 c3] TN) = wq := ⟨_, rfl⟩
                obtain ⟨qz, hqz⟩ : ∃ qz, w7.heap.size = qz := ⟨_, rfl⟩
                have gwq : w7.grownBy wq none := by rw [← hwq]; exact World.grownBy_alloc _ _ _
                have RQ := Lib.hid (RF.out.grown (HG7.out.trans gwq))
                have CQ := Lib.hid (show C3 wq qz (.int .u8 a3) (.int .u8 b3) (.slice A3 k3 c3) TN by rw [← hwq, ← hqz]; exact c3_new _ _ _ _ _)
                have HPQ : Hid (SN wq (Apart S h (.slice PA pn pc)) (tj.rep v u) (a3, b3, .slice A3 k3 c3)) := Lib.hid ((HS7.out.grown gwq).keep (fun _ _ _ => rfl) (fun x hx hl => RF.out.apart_new hS hx) _ _)
                have p0 := CQ.out.c0
                have p1 := CQ.out.c1
                have p2 := CQ.out.c2
                have n1p := RQ.out.cn.c1
                clear gwq HS7 HG7
                cases gd
                · have o2 := RQ.out.co.c2
                  have hlt4 := RQ.out.co.lt
                  have own1 := (RQ.out.grown (World.grownBy_alloc wq (.cells #[.int .u8 a3, .int .u8 b3, .slice A3 k3 c3] TN) none)).row
                  go_wp2_with (at_builtin; refine wpList_append_own_at _ rfl _ _ 55 rfl (h + 3) TN i0 (.agg #[.int .u8 0, .int .u8 0, .slice none 0 0]) 3 32 Tryz.underlying55 hi0 hz0 hz1 hz2 rfl (by decide) _ j (flat3 ys) rfl own1 ⟨wq.heap.size, 0, none⟩ 1 1 [.int .u8 a3, .int .u8 b3, .slice A3 k3 c3] rfl rfl ?n22_1 ?n22_2 ?n22_3 ?n22_4 ?n22_5 ?_)
                  try case n22_1 => exact cell3_new _ _ _ _ _
                  try case n22_2 => simp [Value.oneCell']
                  try case n22_3 => simp only [maxLen]; omega
                  try case n22_4 => omega
                  try case n22_5 => first | omega | (rw [World.size_alloc]; omega)
                  intro v8 w8 hown8 hg8 _ hat8
                  obtain ⟨A8, k8, c8, rfl⟩ := own_form hown8
                  have RP := (RQ.out.grown (World.grownBy_alloc wq (.cells #[.int .u8 a3, .int .u8 b3, .slice A3 k3 c3] TN) none)).push hown8 hg8 (by rw [World.size_alloc]; exact hat8) (HPQ.out.grown (World.grownBy_alloc wq (.cells #[.int .u8 a3, .int .u8 b3, .slice A3 k3 c3] TN) none))
                  rw [take_snoc5 HKJ.out] at RP
                  have HRP := Lib.hid RP
                  have HO8 := Lib.hid ((RQ.out.co.alloc (.cells #[.int .u8 a3, .int .u8 b3, .slice A3 k3 c3] TN)).grown hg8 (fun e => RQ.out.ap _ e.symm rfl))
                  have s2 := HO8.out.c2
                  have sf := HO8.out.f 2
                  clear RP hown8 hg8 hat8 own1 o2 hlt4
                  go_wp2_with fail
                  go_roundw
                  case rel => exact ⟨j + 1, _, A8, k8, c8, _, by omega, by go_num, rfl, Lib.hid (good3 HGJ.out hgd.out hj0 (.inl ⟨rfl, rfl⟩)), HRP⟩
                  case measure => simp [intOf]; omega
                · cases oz
                  · have o2 := RQ.out.co.c2
                    have hlt4 := RQ.out.co.lt
                    have own1 := (RQ.out.grown (World.grownBy_alloc wq (.cells #[.int .u8 a3, .int .u8 b3, .slice A3 k3 c3] TN) none)).row
                    go_wp2_with (at_builtin; refine wpList_append_own_at _ rfl _ _ 55 rfl (h + 3) TN i0 (.agg #[.int .u8 0, .int .u8 0, .slice none 0 0]) 3 32 Tryz.underlying55 hi0 hz0 hz1 hz2 rfl (by decide) _ j (flat3 ys) rfl own1 ⟨wq.heap.size, 0, none⟩ 1 1 [.int .u8 a3, .int .u8 b3, .slice A3 k3 c3] rfl rfl ?n23_1 ?n23_2 ?n23_3 ?n23_4 ?n23_5 ?_)
                    try case n23_1 => exact cell3_new _ _ _ _ _
                    try case n23_2 => simp [Value.oneCell']
                    try case n23_3 => simp only [maxLen]; omega
                    try case n23_4 => omega
                    try case n23_5 => first | omega | (rw [World.size_alloc]; omega)
                    intro v8 w8 hown8 hg8 _ hat8
                    obtain ⟨A8, k8, c8, rfl⟩ := own_form hown8
                    have RP := (RQ.out.grown (World.grownBy_alloc wq (.cells #[.int .u8 a3, .int .u8 b3, .slice A3 k3 c3] TN) none)).push hown8 hg8 (by rw [World.size_alloc]; exact hat8) (HPQ.out.grown (World.grownBy_alloc wq (.cells #[.int .u8 a3, .int .u8 b3, .slice A3 k3 c3] TN) none))
                    rw [take_snoc5 HKJ.out] at RP
                    have HRP := Lib.hid RP
                    have HO8 := Lib.hid ((RQ.out.co.alloc (.cells #[.int .u8 a3, .int .u8 b3, .slice A3 k3 c3] TN)).grown hg8 (fun e => RQ.out.ap _ e.symm rfl))
                    have s2 := HO8.out.c2
                    have sf := HO8.out.f 2
                    clear RP hown8 hg8 hat8 own1 o2 hlt4
                    go_wp2_with fail
                    go_roundw
                    case rel => exact ⟨j + 1, _, A8, k8, c8, _, by omega, by go_num, rfl, Lib.hid (good3 HGJ.out hgd.out hj0 (.inr (.inl ⟨rfl, rfl⟩))), HRP⟩
                    case measure => simp [intOf]; omega
                  · by_cases hb0 : b = 0
                    · have hb1 : (b == 0) = true := by simp [hb0]
                      have HB00 := Lib.hid hb0
                      clear hb0
                      have o2 := RQ.out.co.c2
                      have hlt4 := RQ.out.co.lt
                      have own1 := (RQ.out.grown (World.grownBy_alloc wq (.cells #[.int .u8 a3, .int .u8 b3, .slice A3 k3 c3] TN) none)).row
                      go_wp2_with (at_builtin; refine wpList_append_own_at _ rfl _ _ 55 rfl (h + 3) TN i0 (.agg #[.int .u8 0, .int .u8 0, .slice none 0 0]) 3 32 Tryz.underlying55 hi0 hz0 hz1 hz2 rfl (by decide) _ j (flat3 ys) rfl own1 ⟨wq.heap.size, 0, none⟩ 1 1 [.int .u8 a3, .int .u8 b3, .slice A3 k3 c3] rfl rfl ?n24_1 ?n24_2 ?n24_3 ?n24_4 ?n24_5 ?_)
                      try case n24_1 => exact cell3_new _ _ _ _ _
                      try case n24_2 => simp [Value.oneCell']
                      try case n24_3 => simp only [maxLen]; omega
                      try case n24_4 => omega
                      try case n24_5 => first | omega | (rw [World.size_alloc]; omega)
                      intro v8 w8 hown8 hg8 _ hat8
                      obtain ⟨A8, k8, c8, rfl⟩ := own_form hown8
                      have RP := (RQ.out.grown (World.grownBy_alloc wq (.cells #[.int .u8 a3, .int .u8 b3, .slice A3 k3 c3] TN) none)).push hown8 hg8 (by rw [World.size_alloc]; exact hat8) (HPQ.out.grown (World.grownBy_alloc wq (.cells #[.int .u8 a3, .int .u8 b3, .slice A3 k3 c3] TN) none))
                      rw [take_snoc5 HKJ.out] at RP
                      have HRP := Lib.hid RP
                      have HO8 := Lib.hid ((RQ.out.co.alloc (.cells #[.int .u8 a3, .int .u8 b3, .slice A3 k3 c3] TN)).grown hg8 (fun e => RQ.out.ap _ e.symm rfl))
                      have s2 := HO8.out.c2
                      have sf := HO8.out.f 2
                      clear RP hown8 hg8 hat8 own1 o2 hlt4
                      go_wp2_with fail
                      go_roundw
                      case rel => exact ⟨j + 1, _, A8, k8, c8, _, by omega, by go_num, rfl, Lib.hid (good3 HGJ.out hgd.out hj0 (.inr (.inr (.inl ⟨rfl, rfl, HB00.out, rfl⟩)))), HRP⟩
                      case measure => simp [intOf]; omega
                    · have hb1 : (b == 0) = false := by simp [hb0]
                      have hbp : 0 < b := by have := HB0.out; omega
                      have HFU := Lib.hid (sfree_any u.size u S ua ub UA uk uc b wq (Nat.le_refl _) huok hbp (HU.out.grown RQ.out.gr))
                      obtain ⟨fu, hfu⟩ : ∃ fu, u.free b = fu := ⟨_, rfl⟩
                      rw [hfu] at HFU HGJ
                      have u0 := RQ.out.cu.c0
                      have u1 := RQ.out.cu.c1
                      have u2 := RQ.out.cu.c2
                      clear hfu
                      go_wp2_with fail
                      refine HFU.out.mono ?_
                      rintro e w9 ⟨rfl, hg8⟩
                      have R8 := Lib.hid (RQ.out.grown hg8)
                      have C8 := Lib.hid (CQ.out.grown hg8 (by simp))
                      have HP8 := Lib.hid (HPQ.out.grown hg8)
                      clear hg8 u0 u1 u2 p0 p1 p2 n1p
                      have p0 := C8.out.c0
                      have p1 := C8.out.c1
                      have p2 := C8.out.c2
                      cases fu
                      · have o2 := R8.out.co.c2
                        have hlt4 := R8.out.co.lt
                        have own1 := (R8.out.grown (World.grownBy_alloc w9 (.cells #[.int .u8 a3, .int .u8 b3, .slice A3 k3 c3] TN) none)).row
                        go_wp2_with (at_builtin; refine wpList_append_own_at _ rfl _ _ 55 rfl (h + 3) TN i0 (.agg #[.int .u8 0, .int .u8 0, .slice none 0 0]) 3 32 Tryz.underlying55 hi0 hz0 hz1 hz2 rfl (by decide) _ j (flat3 ys) rfl own1 ⟨w9.heap.size, 0, none⟩ 1 1 [.int .u8 a3, .int .u8 b3, .slice A3 k3 c3] rfl rfl ?n25_1 ?n25_2 ?n25_3 ?n25_4 ?n25_5 ?_)
                        try case n25_1 => exact cell3_new _ _ _ _ _
                        try case n25_2 => simp [Value.oneCell']
                        try case n25_3 => simp only [maxLen]; omega
                        try case n25_4 => omega
                        try case n25_5 => first | omega | (rw [World.size_alloc]; omega)
                        intro v8 w8 hown8 hg8 _ hat8
                        obtain ⟨A8, k8, c8, rfl⟩ := own_form hown8
                        have RP := (R8.out.grown (World.grownBy_alloc w9 (.cells #[.int .u8 a3, .int .u8 b3, .slice A3 k3 c3] TN) none)).push hown8 hg8 (by rw [World.size_alloc]; exact hat8) (HP8.out.grown (World.grownBy_alloc w9 (.cells #[.int .u8 a3, .int .u8 b3, .slice A3 k3 c3] TN) none))
                        rw [take_snoc5 HKJ.out] at RP
                        have HRP := Lib.hid RP
                        have HO8 := Lib.hid ((R8.out.co.alloc (.cells #[.int .u8 a3, .int .u8 b3, .slice A3 k3 c3] TN)).grown hg8 (fun e => R8.out.ap _ e.symm rfl))
                        have s2 := HO8.out.c2
                        have sf := HO8.out.f 2
                        clear RP hown8 hg8 hat8 own1 o2 hlt4
                        go_wp2_with fail
                        go_roundw
                        case rel => exact ⟨j + 1, _, A8, k8, c8, _, by omega, by go_num, rfl, Lib.hid (good3 HGJ.out hgd.out hj0 (.inr (.inr (.inr ⟨rfl, rfl, hb0, rfl⟩)))), HRP⟩
                        case measure => simp [intOf]; omega
                      · have o2 := R8.out.co.c2
                        have hlt4 := R8.out.co.lt
                        have own1 := (R8.out.grown (World.grownBy_alloc w9 (.cells #[.int .u8 a3, .int .u8 b3, .slice A3 k3 c3] TN) none)).row
                        go_wp2_with (at_builtin; refine wpList_append_own_at _ rfl _ _ 55 rfl (h + 3) TN i0 (.agg #[.int .u8 0, .int .u8 0, .slice none 0 0]) 3 32 Tryz.underlying55 hi0 hz0 hz1 hz2 rfl (by decide) _ j (flat3 ys) rfl own1 ⟨w9.heap.size, 0, none⟩ 1 1 [.int .u8 a3, .int .u8 b3, .slice A3 k3 c3] rfl rfl ?n26_1 ?n26_2 ?n26_3 ?n26_4 ?n26_5 ?_)
                        try case n26_1 => exact cell3_new _ _ _ _ _
                        try case n26_2 => simp [Value.oneCell']
                        try case n26_3 => simp only [maxLen]; omega
                        try case n26_4 => omega
                        try case n26_5 => first | omega | (rw [World.size_alloc]; omega)
                        intro v8 w8 hown8 hg8 _ hat8
                        obtain ⟨A8, k8, c8, rfl⟩ := own_form hown8
                        have RP := (R8.out.grown (World.grownBy_alloc w9 (.cells #[.int .u8 a3, .int .u8 b3, .slice A3 k3 c3] TN) none)).push hown8 hg8 (by rw [World.size_alloc]; exact hat8) (HP8.out.grown (World.grownBy_alloc w9 (.cells #[.int .u8 a3, .int .u8 b3, .slice A3 k3 c3] TN) none))
                        rw [take_snoc5 HKJ.out] at RP
                        have HRP := Lib.hid RP
                        have HO8 := Lib.hid ((R8.out.co.alloc (.cells #[.int .u8 a3, .int .u8 b3, .slice A3 k3 c3] TN)).grown hg8 (fun e => R8.out.ap _ e.symm rfl))
                        have s2 := HO8.out.c2
                        have sf := HO8.out.f 2
                        clear RP hown8 hg8 hat8 own1 o2 hlt4
                        go_wp2_with fail
                        go_roundw
                        case rel => exact ⟨j + 1, _, A8, k8, c8, _, by omega, by go_num, rfl, Lib.hid (good3 HGJ.out hgd.out hj0 (.inr (.inr (.inr ⟨rfl, rfl, hb0, rfl⟩)))), HRP⟩
                        case measure => simp [intOf]; omega

            · cases hjbb
      · have hjk : j = k := by omega
        have HJK := Lib.hid hjk
        have HRS := hrs
        obtain ⟨PV, hPV⟩ : ∃ x, Value.slice PA pn pc = x := ⟨_, rfl⟩
        have c0 := hrs.out.co.c0
        have c1 := hrs.out.co.c1
        have c2 := hrs.out.co.c2
        have r0 := hrs.out.cr.c0
        have r1 := hrs.out.cr.c1
        have r2 := hrs.out.cr.c2
        have f0 := hrs.out.cr.f 0
        have f1 := hrs.out.cr.f 1
        have f2 := hrs.out.cr.f 2
        have HEND := Lib.hid (hrs.out.ended hS)
        have HC3 := Lib.hid (hrs.out.cr.laid (x' := .int .u8 a) (y' := .int .u8 b) (z' := .slice PA pn pc))
        have hgd2 : Hid (gd = res) := Lib.hid (by
          rw [hgd.out, HJK.out, List.take_of_length_le (by rw [HGLL.out, HLEN.out, HKL.out]; exact Nat.le_refl _), HGL.out, HRES.out])
        have hks : Hid ((repK t v u).take j = repK t v u) := Lib.hid (by rw [HJK.out, List.take_of_length_le (by rw [HRKL.out, HLEN.out, HKL.out]; exact Nat.le_refl _)])
        clear hjk hPV hrs
        go_wp2_with fail
        clear c0 c1 c2 r0 r1 r2 f0 f1 f2
        have n0 := HC3.out.c0
        have n1 := HC3.out.c1
        have n2 := HC3.out.c2
        unfold laid3 at n0 n1 n2
        refine bodyPost_ret (v := .tuple #[.agg #[.int .u8 a, .int .u8 b, .slice PA pn pc], .bool gd]) (by simp [results, Tryz.results30, go_sem, n0, n1, n2]) rfl ?_
        obtain ⟨e1, e2, e3, e4⟩ := HEND.out
        rw [hks.out] at e3
        exact ⟨_, _, _, _, _, by rw [hgd2.out], e4, HSN.out _ _ _ _ e1 e2 e3⟩
end

/- WithP -/
section
open Go.RowKit
attribute [local go_sem] Oper.semAt_some

/-- A method that is handed to withParts with its receiver: what it writes at most, what it keeps. -/
structure Chg (gf r : Nat) (row : Option Nat) (Inv : List Nat → World → Prop) : Prop where
  enters : ∀ (args : Array Value) (w : World), (callFunc gf args).run Tryz.prog w = .ok (.enter gf args) w
  grown : ∀ (l : List Nat) (u u' : World), Inv l u → u.grownBy u' none → Inv l u'
  heap : ∀ (l : List Nat) (u u' : World) (g : Nat) (cs : Array Value) (ty : TypeId), Inv l u → u.grownBy u' row → (ty = 115 ∨ ty = 119 ∨ ty = 97) →
    u.heap[g]? = some (.cells cs ty (0, 0)) → u'.heap[g]? = some (.cells cs ty (0, 0))

theorem Chg.keep {gf r : Nat} {row : Option Nat} {Inv : List Nat → World → Prop} (hc : Chg gf r row Inv) {l : List Nat} {u u' : World} (hi : Inv l u) (hg : u.grownBy u' row) : ∀ {t : Tm} {v : Value}, PT u (fun _ => True) t v → PT u' (fun _ => True) t v
  | .dig _, _, h => h
  | .var _, _, h => h
  | .pre _ _, _, ⟨b, x, hv, _, hh, hx⟩ => ⟨b, x, hv, trivial, hc.heap l u u' b _ _ hi hg (.inl rfl) hh, hc.keep hi hg hx⟩
  | .two _ _ _, _, ⟨b, x, y, hv, _, hh, hx, hy⟩ => ⟨b, x, y, hv, trivial, hc.heap l u u' b _ _ hi hg (.inr (.inl rfl)) hh, hc.keep hi hg hx, hc.keep hi hg hy⟩
  | .loop _ _ _ _, _, ⟨b, x, y, hv, _, hh, hx, hy⟩ => ⟨b, x, y, hv, trivial, hc.heap l u u' b _ _ hi hg (.inr (.inr rfl)) hh, hc.keep hi hg hx, hc.keep hi hg hy⟩

/-- How a call ends that changes a term: with a term, and what was noted. -/
def ChgP (row : Option Nat) (Inv : List Nat → World → Prop) (t : Tm) (l : List Nat) (w : World) (e : Ending) (w' : World) : Prop :=
  ∃ v, e = .returned v ∧ w.grownBy w' row ∧ PT w' (fun _ => True) t v ∧ Inv l w'
/-- What the method does with a part. -/
def KidP (gf r : Nat) (row : Option Nat) (Inv : List Nat → World → Prop) (k k' : Tm) (m : List Nat) (x : Value) : Prop :=
  ∀ (u : World) (l : List Nat), Inv l u → PT u (fun _ => True) k x → Calls Tryz.prog gf #[.pointer (some ⟨r, 0, none⟩), x] u (ChgP row Inv k' (l ++ m) u)

abbrev fv (gf r : Nat) : Value := .func (.func gf) #[.pointer (some ⟨r, 0, none⟩)] #[]

set_option maxRecDepth 100000 in
set_option maxHeartbeats 2000000 in
theorem withp_leaf (gf r : Nat) (row : Option Nat) (Inv : List Nat → World → Prop) (t : Tm) (l : List Nat) (ty : TypeId) (pv : Value) (w : World) (h1 : t.isPrf = false) (h2 : t.isTwo = false) (h3 : t.isLp = false) (hi : Inv l w) (h : PT w (fun _ => True) t (.iface ty pv)) :
    Calls Tryz.prog 50 #[.iface ty pv, fv gf r] w (ChgP row Inv t l w) := by
  have ht1 := ta_nopre h h1
  have ht2 := ta_notwo h h2
  have ht3 := ta_nolp h h3
  have H := Lib.hid h
  have HI := Lib.hid hi
  clear h hi h1 h2 h3
  go_enter Tryz.func50, Tryz.ntmps50
  go_wp2_with fail
  go_ret
  exact ⟨_, rfl, gr_refl _ _, H.out, HI.out⟩

set_option maxRecDepth 100000 in
set_option maxHeartbeats 4000000 in
theorem withp_pre (gf r : Nat) (row : Option Nat) (Inv : List Nat → World → Prop) (hc : Chg gf r row Inv) (c : Int) (s s' : Tm) (l m : List Nat) (g : Nat) (x : Value) (w : World) (hi : Inv l w)
    (hh : w.heap[g]? = some (.cells #[.int .u8 c, x] 115 (0, 0))) (hx : PT w (fun _ => True) s x) (ih : KidP gf r row Inv s s' m x) :
    Calls Tryz.prog 50 #[.iface 112 (.pointer (some ⟨g, 0, none⟩)), fv gf r] w (ChgP row Inv (.pre c s') (l ++ m) w) := by
  have ht1 := fun xT u => ta_pre_pre (.pointer (some ⟨g, 0, none⟩)) xT u
  have heg := hc.enters
  obtain ⟨tx, px, rfl⟩ := hx.iface
  have c0 : w.cell? ⟨g, 0, none⟩ = some (.int .u8 c) := cell_of_row w g 0 _ _ (0, 0) hh
  have c1 : w.cell? ⟨g, 1, none⟩ = some (.iface tx px) := cell_of_row w g 1 _ _ (0, 0) hh
  have HC := Lib.hid hc
  have HI := Lib.hid hi
  have HH := Lib.hid hh
  have HX := Lib.hid hx
  have HK := Lib.hid ih
  clear hc hi hh hx ih
  go_enter Tryz.func50, Tryz.ntmps50
  go_wp2_with fail
  go_region_law (first
    | (go_simp
       refine (HK.out _ l (HC.out.grown l _ _ HI.out (gr_drewN w 1 none)) (HX.out.grown (gr_drewN w 1 none))).mono ?_
       rintro e wa ⟨x', rfl, hga, hpa, hia⟩
       obtain ⟨tx', px', rfl⟩ := hpa.iface
       have hgg := (gr_drewN w 1 row).trans hga
       have HGa := Lib.hid hgg
       have HPa := Lib.hid hpa
       have HIa := Lib.hid hia
       have c0a : wa.cell? ⟨g, 0, none⟩ = some (.int .u8 c) := cell_of_row wa g 0 _ _ (0, 0) (HC.out.heap l _ _ g _ _ HI.out hgg (.inl rfl) HH.out)
       clear hga hpa hia hgg))
  all_goals
    go_wp2_with fail
  all_goals
    go_ret
    exact ⟨_, rfl, HGa.out.trans (World.grownBy_alloc _ _ _), pt_pre HPa.out, HC.out.grown _ _ _ HIa.out (World.grownBy_alloc _ _ _)⟩
end

/- WithQ -/
section
open Go.RowKit
attribute [local go_sem] Oper.semAt_some

set_option maxRecDepth 100000 in
set_option maxHeartbeats 8000000 in
theorem withp_two (gf r : Nat) (row : Option Nat) (Inv : List Nat → World → Prop) (hc : Chg gf r row Inv) (c : Int) (s s' t t' : Tm) (l m n : List Nat) (g : Nat) (x y : Value) (w : World) (hi : Inv l w)
    (hh : w.heap[g]? = some (.cells #[.int .u8 c, x, y] 119 (0, 0))) (hx : PT w (fun _ => True) s x) (hy : PT w (fun _ => True) t y) (ih1 : KidP gf r row Inv s s' m x) (ih2 : KidP gf r row Inv t t' n y) :
    Calls Tryz.prog 50 #[.iface 116 (.pointer (some ⟨g, 0, none⟩)), fv gf r] w (ChgP row Inv (.two c s' t') (l ++ (m ++ n)) w) := by
  have ht1 := fun xT u => ta_two_pre (.pointer (some ⟨g, 0, none⟩)) xT u
  have ht2 := fun xT u => ta_two_two (.pointer (some ⟨g, 0, none⟩)) xT u
  have heg := hc.enters
  obtain ⟨tx, px, rfl⟩ := hx.iface
  obtain ⟨t2, p2, rfl⟩ := hy.iface
  have c0 : w.cell? ⟨g, 0, none⟩ = some (.int .u8 c) := cell_of_row w g 0 _ _ (0, 0) hh
  have c1 : w.cell? ⟨g, 1, none⟩ = some (.iface tx px) := cell_of_row w g 1 _ _ (0, 0) hh
  have c2 : w.cell? ⟨g, 2, none⟩ = some (.iface t2 p2) := cell_of_row w g 2 _ _ (0, 0) hh
  have HC := Lib.hid hc
  have HI := Lib.hid hi
  have HH := Lib.hid hh
  have HX := Lib.hid hx
  have HY := Lib.hid hy
  have HK1 : Hid (∀ (u : World) (l : List Nat), Inv l u → PT u (fun _ => True) s (.iface tx px) → Calls Tryz.prog gf #[.pointer (some ⟨r, 0, none⟩), .iface tx px] u (ChgP row Inv s' (l ++ m) u)) := Lib.hid ih1
  have HK2 : Hid (∀ (u : World) (l : List Nat), Inv l u → PT u (fun _ => True) t (.iface t2 p2) → Calls Tryz.prog gf #[.pointer (some ⟨r, 0, none⟩), .iface t2 p2] u (ChgP row Inv t' (l ++ n) u)) := Lib.hid ih2
  clear hc hi hh hx hy ih1 ih2
  go_enter Tryz.func50, Tryz.ntmps50
  go_wp2_with fail
  go_region_held3 (fun w' => w'.cell? ⟨g, 0, none⟩ = some (.int .u8 c) ∧ w'.cell? ⟨g, 1, none⟩ = some (.iface tx px) ∧ w'.cell? ⟨g, 2, none⟩ = some (.iface t2 p2)) (go_keep) (first
    | ((with_reducible refine (HK2.out _ _ HIa.out HYa.out).mono ?_)
       rintro e wb ⟨y', rfl, hgb, hpb, hib⟩
       obtain ⟨ty', py', rfl⟩ := hpb.iface
       have hgg := HGa.out.trans hgb
       have HGb := Lib.hid hgg
       have HPb := Lib.hid hpb
       have HPab := Lib.hid (HC.out.keep HIa.out hgb HPa.out)
       have HIb : Hid (Inv (l ++ (m ++ n)) wb) := Lib.hid (by rw [← List.append_assoc]; exact hib)
       have HHb := Lib.hid (HC.out.heap l _ _ g _ _ HI.out hgg (.inr (.inl rfl)) HH.out)
       have d0b : wb.cell? ⟨g, 0, none⟩ = some (.int .u8 c) := cell_of_row wb g 0 _ _ (0, 0) HHb.out
       have d1b : wb.cell? ⟨g, 1, none⟩ = some (.iface tx px) := cell_of_row wb g 1 _ _ (0, 0) HHb.out
       have d2b : wb.cell? ⟨g, 2, none⟩ = some (.iface t2 p2) := cell_of_row wb g 2 _ _ (0, 0) HHb.out
       clear hgb hpb hib hgg)
    | ((with_reducible refine (HK1.out _ l ?_ ?_).mono ?_)
       · exact HC.out.grown l _ _ HI.out (gr_drewN w 1 none)
       · exact HX.out.grown (gr_drewN w 1 none)
       rintro e wa ⟨x', rfl, hga, hpa, hia⟩
       obtain ⟨tx', px', rfl⟩ := hpa.iface
       have hgg := (gr_drewN w 1 row).trans hga
       have HGa := Lib.hid hgg
       have HPa := Lib.hid hpa
       have HIa := Lib.hid hia
       have HHa := Lib.hid (HC.out.heap l _ _ g _ _ HI.out hgg (.inr (.inl rfl)) HH.out)
       have HYa := Lib.hid (HC.out.keep HI.out hgg HY.out)
       have d0a : wa.cell? ⟨g, 0, none⟩ = some (.int .u8 c) := cell_of_row wa g 0 _ _ (0, 0) HHa.out
       have d1a : wa.cell? ⟨g, 1, none⟩ = some (.iface tx px) := cell_of_row wa g 1 _ _ (0, 0) HHa.out
       have d2a : wa.cell? ⟨g, 2, none⟩ = some (.iface t2 p2) := cell_of_row wa g 2 _ _ (0, 0) HHa.out
       clear hga hpa hia hgg))
  all_goals
    go_wp2_with fail
  all_goals
    go_ret
    exact ⟨_, rfl, HGb.out.trans (World.grownBy_alloc _ _ _), pt_two HPab.out HPb.out, HC.out.grown _ _ _ HIb.out (World.grownBy_alloc _ _ _)⟩
end

/- WithL -/
section
open Go.RowKit
attribute [local go_sem] Oper.semAt_some

set_option maxRecDepth 100000 in
set_option maxHeartbeats 8000000 in
theorem withp_loop (gf r : Nat) (row : Option Nat) (Inv : List Nat → World → Prop) (hc : Chg gf r row Inv) (c i : Int) (s s' t t' : Tm) (l m n : List Nat) (g : Nat) (x y : Value) (w : World) (hi : Inv l w)
    (hh : w.heap[g]? = some (.cells #[.int .u8 c, .int .u8 i, x, y] 97 (0, 0))) (hx : PT w (fun _ => True) s x) (hy : PT w (fun _ => True) t y) (ih1 : KidP gf r row Inv s s' m x) (ih2 : KidP gf r row Inv t t' n y) :
    Calls Tryz.prog 50 #[.iface 94 (.pointer (some ⟨g, 0, none⟩)), fv gf r] w (ChgP row Inv (.loop c i s' t') (l ++ (m ++ n)) w) := by
  have ht1 := fun xT u => ta_loop_pre (.pointer (some ⟨g, 0, none⟩)) xT u
  have ht2 := fun xT u => ta_loop_two (.pointer (some ⟨g, 0, none⟩)) xT u
  have ht3 := fun xT u => ta_loop_loop (.pointer (some ⟨g, 0, none⟩)) xT u
  have heg := hc.enters
  obtain ⟨tx, px, rfl⟩ := hx.iface
  obtain ⟨t2, p2, rfl⟩ := hy.iface
  have c0 : w.cell? ⟨g, 0, none⟩ = some (.int .u8 c) := cell_of_row w g 0 _ _ (0, 0) hh
  have c1 : w.cell? ⟨g, 1, none⟩ = some (.int .u8 i) := cell_of_row w g 1 _ _ (0, 0) hh
  have c2 : w.cell? ⟨g, 2, none⟩ = some (.iface tx px) := cell_of_row w g 2 _ _ (0, 0) hh
  have c3 : w.cell? ⟨g, 3, none⟩ = some (.iface t2 p2) := cell_of_row w g 3 _ _ (0, 0) hh
  have HC := Lib.hid hc
  have HI := Lib.hid hi
  have HH := Lib.hid hh
  have HX := Lib.hid hx
  have HY := Lib.hid hy
  have HK1 : Hid (∀ (u : World) (l : List Nat), Inv l u → PT u (fun _ => True) s (.iface tx px) → Calls Tryz.prog gf #[.pointer (some ⟨r, 0, none⟩), .iface tx px] u (ChgP row Inv s' (l ++ m) u)) := Lib.hid ih1
  have HK2 : Hid (∀ (u : World) (l : List Nat), Inv l u → PT u (fun _ => True) t (.iface t2 p2) → Calls Tryz.prog gf #[.pointer (some ⟨r, 0, none⟩), .iface t2 p2] u (ChgP row Inv t' (l ++ n) u)) := Lib.hid ih2
  clear hc hi hh hx hy ih1 ih2
  go_enter Tryz.func50, Tryz.ntmps50
  go_wp2_with fail
  go_region_held3 (fun w' => w'.cell? ⟨g, 0, none⟩ = some (.int .u8 c) ∧ w'.cell? ⟨g, 1, none⟩ = some (.int .u8 i) ∧ w'.cell? ⟨g, 2, none⟩ = some (.iface tx px) ∧ w'.cell? ⟨g, 3, none⟩ = some (.iface t2 p2)) (go_keep) (first
    | ((with_reducible refine (HK2.out _ _ HIa.out HYa.out).mono ?_)
       rintro e wb ⟨y', rfl, hgb, hpb, hib⟩
       obtain ⟨ty', py', rfl⟩ := hpb.iface
       have hgg := HGa.out.trans hgb
       have HGb := Lib.hid hgg
       have HPb := Lib.hid hpb
       have HPab := Lib.hid (HC.out.keep HIa.out hgb HPa.out)
       have HIb : Hid (Inv (l ++ (m ++ n)) wb) := Lib.hid (by rw [← List.append_assoc]; exact hib)
       have HHb := Lib.hid (HC.out.heap l _ _ g _ _ HI.out hgg (.inr (.inr rfl)) HH.out)
       have d0b : wb.cell? ⟨g, 0, none⟩ = some (.int .u8 c) := cell_of_row wb g 0 _ _ (0, 0) HHb.out
       have d1b : wb.cell? ⟨g, 1, none⟩ = some (.int .u8 i) := cell_of_row wb g 1 _ _ (0, 0) HHb.out
       have d2b : wb.cell? ⟨g, 2, none⟩ = some (.iface tx px) := cell_of_row wb g 2 _ _ (0, 0) HHb.out
       have d3b : wb.cell? ⟨g, 3, none⟩ = some (.iface t2 p2) := cell_of_row wb g 3 _ _ (0, 0) HHb.out
       clear hgb hpb hib hgg)
    | ((with_reducible refine (HK1.out _ l ?_ ?_).mono ?_)
       · exact HC.out.grown l _ _ HI.out (gr_drewN w 1 none)
       · exact HX.out.grown (gr_drewN w 1 none)
       rintro e wa ⟨x', rfl, hga, hpa, hia⟩
       obtain ⟨tx', px', rfl⟩ := hpa.iface
       have hgg := (gr_drewN w 1 row).trans hga
       have HGa := Lib.hid hgg
       have HPa := Lib.hid hpa
       have HIa := Lib.hid hia
       have HHa := Lib.hid (HC.out.heap l _ _ g _ _ HI.out hgg (.inr (.inr rfl)) HH.out)
       have HYa := Lib.hid (HC.out.keep HI.out hgg HY.out)
       have d0a : wa.cell? ⟨g, 0, none⟩ = some (.int .u8 c) := cell_of_row wa g 0 _ _ (0, 0) HHa.out
       have d1a : wa.cell? ⟨g, 1, none⟩ = some (.int .u8 i) := cell_of_row wa g 1 _ _ (0, 0) HHa.out
       have d2a : wa.cell? ⟨g, 2, none⟩ = some (.iface tx px) := cell_of_row wa g 2 _ _ (0, 0) HHa.out
       have d3a : wa.cell? ⟨g, 3, none⟩ = some (.iface t2 p2) := cell_of_row wa g 3 _ _ (0, 0) HHa.out
       clear hga hpa hia hgg))
  all_goals
    go_wp2_with fail
  all_goals
    go_ret
    exact ⟨_, rfl, HGb.out.trans (World.grownBy_alloc _ _ _), pt_loop HPab.out HPb.out, HC.out.grown _ _ _ HIb.out (World.grownBy_alloc _ _ _)⟩
end

/- TInN -/
section
open Go.RowKit

abbrev TR : TypeId := 93
abbrev FIN : Nat := 28
/-- The replacement in memory. -/
def InI (r : Nat) (v : Int) (byv : Value) (fb : Nat) (u : Tm) (_ : List Nat) (w : World) : Prop := w.heap[r]? = some (.cells #[.int .u8 v, byv, .map (some fb)] TR (0, 0)) ∧ PT w (fun _ => True) u byv
theorem chg_in (r : Nat) (v : Int) (byv : Value) (fb : Nat) (u : Tm) : Chg FIN r none (InI r v byv fb u) where
  enters := enters_of Tryz.func28 (by kernel_rfl) rfl
  grown := fun _ _ _ h hg => ⟨(hg.block r (blk_lt h.1) (by simp)).trans h.1, h.2.grown hg⟩
  heap := fun _ _ _ g _ _ _ hg _ hh => (hg.block g (blk_lt hh) (by simp)).trans hh

set_option maxRecDepth 100000 in
set_option maxHeartbeats 1000000 in
theorem in_hit (v : Int) (u : Tm) (r fb : Nat) (byv : Value) (w : World) (h : InI r v byv fb u [] w) :
    Calls Tryz.prog FIN #[.pointer (some ⟨r, 0, none⟩), .iface 51 (.int .u8 v)] w (InP u w) := by
  have ht1 := fun xT u => ta_var_var (.int .u8 v) xT u
  obtain ⟨tb, pb, rfl⟩ := h.2.iface
  have r0 : w.cell? ⟨r, 0, none⟩ = some (.int .u8 v) := cell_of_row w r 0 _ _ (0, 0) h.1
  have r1 : w.cell? ⟨r, 1, none⟩ = some (.iface tb pb) := cell_of_row w r 1 _ _ (0, 0) h.1
  have HB := Lib.hid h.2
  have hb : (v == v) = true := by simp
  clear h
  go_enter Tryz.func28, Tryz.ntmps28
  go_wp2_with fail
  go_ret
  exact ⟨_, rfl, gr_refl _ _, HB.out⟩

set_option maxRecDepth 100000 in
set_option maxHeartbeats 1000000 in
theorem in_var (c v : Int) (t' u : Tm) (r fb : Nat) (byv : Value) (w : World) (hcv : c ≠ v) (h : InI r v byv fb u [] w)
    (hw : ∀ w' : World, w.grownBy w' none → Calls Tryz.prog 50 #[.iface 51 (.int .u8 c), fv FIN r] w' (ChgP none (InI r v byv fb u) t' [] w')) :
    Calls Tryz.prog FIN #[.pointer (some ⟨r, 0, none⟩), .iface 51 (.int .u8 c)] w (InP t' w) := by
  have ht1 := fun xT u => ta_var_var (.int .u8 c) xT u
  have ht2 := fun xT u => ta_var_loop (.int .u8 c) xT u
  have r0 : w.cell? ⟨r, 0, none⟩ = some (.int .u8 v) := cell_of_row w r 0 _ _ (0, 0) h.1
  have hb : (c == v) = false := by rw [beq_eq_false_iff_ne]; exact hcv
  have HW := Lib.hid hw
  clear h hw hcv
  go_enter Tryz.func28, Tryz.ntmps28
  go_wp2_with fail
  refine (HW.out _ (gr_refl _ _)).mono ?_
  rintro e w1 ⟨x, rfl, hg1, hp1, _⟩
  obtain ⟨tx, px, rfl⟩ := hp1.iface
  have HG1 := Lib.hid hg1
  have HP1 := Lib.hid hp1
  clear hg1 hp1
  go_wp2_with fail
  go_ret
  exact ⟨_, rfl, HG1.out, HP1.out⟩

set_option maxRecDepth 100000 in
set_option maxHeartbeats 1000000 in
theorem in_rest (t t' u : Tm) (v : Int) (r fb : Nat) (byv : Value) (ty : TypeId) (pv : Value) (w : World) (h1 : t.isVar = false) (h2 : t.isLp = false) (hp : PT w (fun _ => True) t (.iface ty pv))
    (hw : ∀ w' : World, w.grownBy w' none → Calls Tryz.prog 50 #[.iface ty pv, fv FIN r] w' (ChgP none (InI r v byv fb u) t' [] w')) :
    Calls Tryz.prog FIN #[.pointer (some ⟨r, 0, none⟩), .iface ty pv] w (InP t' w) := by
  have ht1 := ta_novar hp h1
  have ht2 := ta_nolp hp h2
  have HW := Lib.hid hw
  clear hp hw h1 h2
  go_enter Tryz.func28, Tryz.ntmps28
  go_wp2_with fail
  refine (HW.out _ (gr_refl _ _)).mono ?_
  rintro e w1 ⟨x, rfl, hg1, hp1, _⟩
  obtain ⟨tx, px, rfl⟩ := hp1.iface
  have HG1 := Lib.hid hg1
  have HP1 := Lib.hid hp1
  clear hg1 hp1
  go_wp2_with fail
  go_ret
  exact ⟨_, rfl, HG1.out, HP1.out⟩

set_option maxRecDepth 100000 in
set_option maxHeartbeats 2000000 in
theorem in_lpn (c i v : Int) (t' u : Tm) (r fb g : Nat) (byv x y : Value) (w : World) (hiv : i ≠ v) (h : InI r v byv fb u [] w)
    (hh : w.heap[g]? = some (.cells #[.int .u8 c, .int .u8 i, x, y] 97 (0, 0)))
    (hw : ∀ w' : World, w.grownBy w' none → Calls Tryz.prog 50 #[.iface 94 (.pointer (some ⟨g, 0, none⟩)), fv FIN r] w' (ChgP none (InI r v byv fb u) t' [] w')) :
    Calls Tryz.prog FIN #[.pointer (some ⟨r, 0, none⟩), .iface 94 (.pointer (some ⟨g, 0, none⟩))] w (InP t' w) := by
  have ht1 := fun xT u => ta_loop_var (.pointer (some ⟨g, 0, none⟩)) xT u
  have ht2 := fun xT u => ta_loop_loop (.pointer (some ⟨g, 0, none⟩)) xT u
  have c1 : w.cell? ⟨g, 1, none⟩ = some (.int .u8 i) := cell_of_row w g 1 _ _ (0, 0) hh
  have r0 : w.cell? ⟨r, 0, none⟩ = some (.int .u8 v) := cell_of_row w r 0 _ _ (0, 0) h.1
  have hb : (i == v) = false := by rw [beq_eq_false_iff_ne]; exact hiv
  have HW := Lib.hid hw
  clear h hw hiv hh
  go_enter Tryz.func28, Tryz.ntmps28
  go_wp2_with fail
  go_quiet (fail)
  go_wp2_with fail
  refine (HW.out _ (gr_drewN w nq none)).mono ?_
  rintro e w1 ⟨x, rfl, hg1, hp1, _⟩
  obtain ⟨tx, px, rfl⟩ := hp1.iface
  have HG1 := Lib.hid ((gr_drewN w nq none).trans hg1)
  have HP1 := Lib.hid hp1
  clear hg1 hp1
  go_wp2_with fail
  go_ret
  exact ⟨_, rfl, HG1.out, HP1.out⟩

set_option maxRecDepth 100000 in
set_option maxHeartbeats 4000000 in
theorem in_lpb (c v : Int) (s s' t u : Tm) (r fb g : Nat) (byv x y : Value) (w : World) (h : InI r v byv fb u [] w)
    (hh : w.heap[g]? = some (.cells #[.int .u8 c, .int .u8 v, x, y] 97 (0, 0))) (hx : PT w (fun _ => True) s x) (hy : PT w (fun _ => True) t y)
    (ih : ∀ w' : World, w.grownBy w' none → Calls Tryz.prog FIN #[.pointer (some ⟨r, 0, none⟩), x] w' (InP s' w')) :
    Calls Tryz.prog FIN #[.pointer (some ⟨r, 0, none⟩), .iface 94 (.pointer (some ⟨g, 0, none⟩))] w (InP (.loop c v s' t) w) := by
  have ht1 := fun xT u => ta_loop_var (.pointer (some ⟨g, 0, none⟩)) xT u
  have ht2 := fun xT u => ta_loop_loop (.pointer (some ⟨g, 0, none⟩)) xT u
  obtain ⟨tx, px, rfl⟩ := hx.iface
  obtain ⟨t2, p2, rfl⟩ := hy.iface
  have C0 := Lib.hid (show w.cell? ⟨g, 0, none⟩ = some (.int .u8 c) from cell_of_row w g 0 _ _ (0, 0) hh)
  have c1 : w.cell? ⟨g, 1, none⟩ = some (.int .u8 v) := cell_of_row w g 1 _ _ (0, 0) hh
  have C2 := Lib.hid (show w.cell? ⟨g, 2, none⟩ = some (.iface tx px) from cell_of_row w g 2 _ _ (0, 0) hh)
  have C3 := Lib.hid (show w.cell? ⟨g, 3, none⟩ = some (.iface t2 p2) from cell_of_row w g 3 _ _ (0, 0) hh)
  have C1 := Lib.hid c1
  have r0 : w.cell? ⟨r, 0, none⟩ = some (.int .u8 v) := cell_of_row w r 0 _ _ (0, 0) h.1
  have hb : (v == v) = true := by simp
  have HI := Lib.hid ih
  have HY := Lib.hid hy
  clear h hh hx hy ih
  go_enter Tryz.func28, Tryz.ntmps28
  go_wp2_with fail
  go_quiet (fail)
  have d0 := C0.out
  have d2 := C2.out
  have d3 := C3.out
  go_wp2_with fail
  go_region_held3 (fun w' => w'.cell? ⟨g, 0, none⟩ = some (.int .u8 c) ∧ w'.cell? ⟨g, 1, none⟩ = some (.int .u8 v) ∧ w'.cell? ⟨g, 2, none⟩ = some (.iface tx px) ∧ w'.cell? ⟨g, 3, none⟩ = some (.iface t2 p2)) (go_keep)
    (first
      | (go_at_call 28
         (with_reducible refine (HI.out _ ?_).mono ?_)
         · exact gr_drewN w (nq + 1) none
         rintro e wa ⟨x', rfl, hga, hpa⟩
         obtain ⟨tx', px', rfl⟩ := hpa.iface
         have HGa := Lib.hid ((gr_drewN w (nq + 1) none).trans hga)
         have HPa := Lib.hid hpa
         have j0 := HGa.out.cell C0.out (by simp)
         have j1 := HGa.out.cell C1.out (by simp)
         have j2 := HGa.out.cell C2.out (by simp)
         have j3 := HGa.out.cell C3.out (by simp)
         clear hga hpa))
  all_goals
    go_wp2_with fail
  all_goals
    go_ret
    exact ⟨_, rfl, HGa.out.trans (World.grownBy_alloc _ _ _), pt_loop HPa.out (HY.out.grown HGa.out)⟩

theorem inr_any (v : Int) (u : Tm) (r fb : Nat) (byv : Value) : ∀ (n : Nat) (t : Tm) (x : Value) (w : World), t.size ≤ n → PT w (fun _ => True) t x → InI r v byv fb u [] w →
    Calls Tryz.prog FIN #[.pointer (some ⟨r, 0, none⟩), x] w (InP (t.rep v u) w)
  | 0, t, _, _, hn, _, _ => by have := t.size_pos; omega
  | n + 1, .dig c, x, w, hn, h, hi => by
    cases h
    exact in_rest (.dig c) (.dig c) u v r fb byv _ _ w rfl rfl rfl (fun w' hg => withp_leaf FIN r none _ (.dig c) [] _ _ w' rfl rfl rfl ((chg_in r v byv fb u).grown _ _ _ hi hg) rfl)
  | n + 1, .var c, x, w, hn, h, hi => by
    cases h
    by_cases hcv : c = v
    · subst hcv
      simp only [Tm.rep, if_true]
      exact in_hit c u r fb byv w hi
    · simp only [Tm.rep, if_neg hcv]
      exact in_var c v (.var c) u r fb byv w hcv hi (fun w' hg => withp_leaf FIN r none _ (.var c) [] _ _ w' rfl rfl rfl ((chg_in r v byv fb u).grown _ _ _ hi hg) rfl)
  | n + 1, .pre c s, x, w, hn, h, hi => by
    obtain ⟨g, x, rfl, _, hh, hx⟩ := h
    simp only [Tm.size] at hn
    exact in_rest (.pre c s) (.pre c (s.rep v u)) u v r fb byv _ _ w rfl rfl ⟨g, x, rfl, trivial, hh, hx⟩ (fun w' hg => withp_pre FIN r none _ (chg_in r v byv fb u) c s (s.rep v u) [] [] g x w' ((chg_in r v byv fb u).grown _ _ _ hi hg) ((hg.block g (blk_lt hh) (by simp)).trans hh) (hx.grown hg)
      (fun u' l hi' hp' => (inr_any v u r fb byv n s x u' (by omega) hp' hi').mono (fun _ _ ⟨v', he, hg', hp''⟩ => ⟨v', he, hg', hp'', (chg_in r v byv fb u).grown _ _ _ hi' hg'⟩)))
  | n + 1, .two c s t, x, w, hn, h, hi => by
    obtain ⟨g, x, y, rfl, _, hh, hx, hy⟩ := h
    simp only [Tm.size] at hn
    exact in_rest (.two c s t) (.two c (s.rep v u) (t.rep v u)) u v r fb byv _ _ w rfl rfl ⟨g, x, y, rfl, trivial, hh, hx, hy⟩ (fun w' hg => withp_two FIN r none _ (chg_in r v byv fb u) c s (s.rep v u) t (t.rep v u) [] [] [] g x y w' ((chg_in r v byv fb u).grown _ _ _ hi hg) ((hg.block g (blk_lt hh) (by simp)).trans hh) (hx.grown hg) (hy.grown hg)
      (fun u' l hi' hp' => (inr_any v u r fb byv n s x u' (by omega) hp' hi').mono (fun _ _ ⟨v', he, hg', hp''⟩ => ⟨v', he, hg', hp'', (chg_in r v byv fb u).grown _ _ _ hi' hg'⟩))
      (fun u' l hi' hp' => (inr_any v u r fb byv n t y u' (by omega) hp' hi').mono (fun _ _ ⟨v', he, hg', hp''⟩ => ⟨v', he, hg', hp'', (chg_in r v byv fb u).grown _ _ _ hi' hg'⟩)))
  | n + 1, .loop c i s t, x, w, hn, h, hi => by
    obtain ⟨g, x, y, rfl, _, hh, hx, hy⟩ := h
    simp only [Tm.size] at hn
    by_cases hiv : i = v
    · subst hiv
      simp only [Tm.rep, if_true]
      exact in_lpb c i s (s.rep i u) t u r fb g byv x y w hi hh hx hy (fun w' hg => inr_any i u r fb byv n s x w' (by omega) (hx.grown hg) ((chg_in r i byv fb u).grown _ _ _ hi hg))
    · simp only [Tm.rep, if_neg hiv]
      exact in_lpn c i v (.loop c i (s.rep v u) (t.rep v u)) u r fb g byv x y w hiv hi hh (fun w' hg => withp_loop FIN r none _ (chg_in r v byv fb u) c i s (s.rep v u) t (t.rep v u) [] [] [] g x y w' ((chg_in r v byv fb u).grown _ _ _ hi hg) ((hg.block g (blk_lt hh) (by simp)).trans hh) (hx.grown hg) (hy.grown hg)
        (fun u' l hi' hp' => (inr_any v u r fb byv n s x u' (by omega) hp' hi').mono (fun _ _ ⟨v', he, hg', hp''⟩ => ⟨v', he, hg', hp'', (chg_in r v byv fb u).grown _ _ _ hi' hg'⟩))
        (fun u' l hi' hp' => (inr_any v u r fb byv n t y u' (by omega) hp' hi').mono (fun _ _ ⟨v', he, hg', hp''⟩ => ⟨v', he, hg', hp'', (chg_in r v byv fb u).grown _ _ _ hi' hg'⟩)))

theorem inn_any (r : Nat) (v : Int) (u : Tm) (byv : Value) (fb : Nat) (n : Nat) (t : Tm) (S : Nat → Prop) (x : Value) (w : World) (hn : t.size ≤ n) (h : PT w S t x) (hr : w.heap[r]? = some (.cells #[.int .u8 v, byv, .map (some fb)] TR (0, 0))) (hu : PT w (fun _ => True) u byv) :
    Calls Tryz.prog FIN #[.pointer (some ⟨r, 0, none⟩), x] w (InP (t.rep v u) w) := inr_any v u r fb byv n t x w hn h.any ⟨hr, hu⟩
theorem innC : InnC := fun r v u byv fb t x w h hr hu => inr_any v u r fb byv t.size t x w (Nat.le_refl _) h ⟨hr, hu⟩
end

/- TBindA -/
section
section
open Go.RowKit

theorem all2_get {α β : Type} {R : α → β → Prop} : ∀ {l : List α} {m : List β}, All2 R l m → ∀ {j : Nat}, j < m.length → ∃ a b, l[j]? = some a ∧ m[j]? = some b ∧ R a b := fun h _ hj => All2.get h hj

theorem any_take_step {bs : List Bool} {j : Nat} {x : Bool} (h : bs[j]? = some x) : (bs.take (j + 1)).any id = ((bs.take j).any id || x) := by
  rw [← take_snoc' h, List.any_append]
  simp
theorem any_of_at {bs : List Bool} {j : Nat} (h : bs[j]? = some true) : bs.any id = true := by
  rw [List.any_eq_true]
  exact ⟨true, List.mem_of_getElem? h, rfl⟩

set_option maxRecDepth 100000 in
set_option maxHeartbeats 2000000 in
theorem idxf_any (r : Nat) (bs : List Bool) (xs : List Value) (B : Nat) (A : Option Addr) (k c : Nat) (w : World) (hl : bs.length = xs.length) (ho : w.ownsRow B 45 1 (.slice A k c) xs.length xs) (hk2 : k ≤ 1000)
    (hif : ∀ (j : Nat) (x : Value), xs[j]? = some x → ∃ t p, x = .iface t p)
    (ih : ∀ (j : Nat) (x : Value) (b : Bool) (u : World), xs[j]? = some x → bs[j]? = some b → w.grownBy u none → Calls Tryz.prog 26 #[.pointer (some ⟨r, 0, none⟩), x] u (WBP b u)) :
    Calls Tryz.prog 70 #[.slice A k c, .func (.func 26) #[.pointer (some ⟨r, 0, none⟩)] #[]] w fun e w' => (∃ n : Int, e = .returned (.int .i64 n) ∧ decide (0 ≤ n) = bs.any id ∧ -1 ≤ n ∧ n ≤ 1000) ∧ w.grownBy w' none := by
  obtain ⟨hk, hkc, hrow⟩ := orow ho
  have HKL := Lib.hid hk
  have HL := Lib.hid hl
  have HROW := Lib.hid hrow
  have HIF := Lib.hid hif
  have HI := Lib.hid ih
  clear ho hk hl hrow hif ih
  go_enter Tryz.func70, Tryz.ntmps70
  go_wp2_with fail
  go_loopw [8] (fun i wr => ∃ j : Nat, j ≤ k ∧ i = .int .i64 j ∧ Hid ((bs.take j).any id = false) ∧ Hid (w.grownBy wr none)) (fun i _ => k - (intOf i).toNat)
  case atStart => exact ⟨0, Nat.zero_le _, rfl, Lib.hid (by simp), Lib.hid (gr_refl _ _)⟩
  case round =>
    obtain ⟨j, hj, rfl, hm, hgr⟩ := hrel
    by_cases hlt : j < k
    · obtain ⟨g, rfl, _, _, hcell⟩ := HROW.out (by omega)
      obtain ⟨x, hx⟩ : ∃ x, xs[j]? = some x := ⟨_, List.getElem?_eq_getElem (by have := HKL.out; omega)⟩
      obtain ⟨b, hb⟩ : ∃ b, bs[j]? = some b := ⟨_, List.getElem?_eq_getElem (by have := HKL.out; have := HL.out; omega)⟩
      obtain ⟨tx, px, rfl⟩ := HIF.out j x hx
      have hc := hgr.out.cell (hcell j _ hx) (by simp)
      have HCALL := Lib.hid (HI.out j _ b wr hx hb hgr.out)
      have HST := Lib.hid (any_take_step hb)
      have HB := Lib.hid hb
      clear hcell hx hb
      go_wp2_with fail
      refine HCALL.out.mono ?_
      rintro e w2 ⟨rfl, hg2⟩
      have HG2 := Lib.hid (hgr.out.trans hg2)
      clear hg2 hc
      cases b
      · go_wp2_with fail
        go_roundw
        case rel => exact ⟨j + 1, by omega, by go_num, Lib.hid (by rw [HST.out, hm.out]; rfl), HG2⟩
        case measure => simp [intOf]; omega
      · go_wp2_with fail
        go_ret
        refine ⟨⟨j, rfl, ?_, by omega, by omega⟩, HG2.out⟩
        rw [any_of_at HB.out]
        simp
    · have hjk : j = k := by omega
      have HJ := Lib.hid hjk
      clear hjk
      go_wp2_with fail
      go_ret
      refine ⟨⟨-1, rfl, ?_, by omega, by omega⟩, hgr.out⟩
      have := hm.out
      rw [HJ.out, List.take_of_length_le (by rw [HL.out, HKL.out]; exact Nat.le_refl _)] at this
      rw [this]
      rfl

set_option maxRecDepth 100000 in
set_option maxHeartbeats 2000000 in
theorem contf_any (r : Nat) (bs : List Bool) (xs : List Value) (B : Nat) (A : Option Addr) (k c : Nat) (w : World) (hl : bs.length = xs.length) (ho : w.ownsRow B 45 1 (.slice A k c) xs.length xs) (hk2 : k ≤ 1000)
    (hif : ∀ (j : Nat) (x : Value), xs[j]? = some x → ∃ t p, x = .iface t p)
    (ih : ∀ (j : Nat) (x : Value) (b : Bool) (u : World), xs[j]? = some x → bs[j]? = some b → w.grownBy u none → Calls Tryz.prog 26 #[.pointer (some ⟨r, 0, none⟩), x] u (WBP b u)) :
    Calls Tryz.prog 49 #[.slice A k c, .func (.func 26) #[.pointer (some ⟨r, 0, none⟩)] #[]] w (WBP (bs.any id) w) := by
  have HI := Lib.hid (idxf_any r bs xs B A k c w hl ho hk2 hif ih)
  generalize bs.any id = b at HI ⊢
  clear ih hif ho hl
  go_enter Tryz.func49, Tryz.ntmps49
  go_wp2_with fail
  refine HI.out.mono ?_
  rintro e w1 ⟨⟨n, rfl, hn, _, _⟩, hg1⟩
  have HN := Lib.hid hn
  have HG1 := Lib.hid hg1
  clear hn hg1
  go_wp2_with fail
  go_ret
  exact ⟨by rw [← HN.out]; rfl, HG1.out⟩
end

section
open Go.RowKit Go.Maps

/-- The replacement in memory: the place, the term that comes in, its free variables. -/
structure RepAt (w : World) (r fb m : Nat) (v : Int) (byv : Value) (u : Tm) : Prop where
  blk : w.heap[r]? = some (.cells #[.int .u8 v, byv, .map (some fb)] 93 (0, 0))
  by' : PT w (fun _ => True) u byv
  set : VSet w fb m u.free
theorem RepAt.grown {w w' : World} {r fb m : Nat} {v : Int} {byv : Value} {u : Tm} (h : RepAt w r fb m v byv u) (hg : w.grownBy w' none) : RepAt w' r fb m v byv u :=
  ⟨(hg.block r (blk_lt h.blk) (by simp)).trans h.blk, h.by'.grown hg, h.set.grown hg (by simp)⟩

theorem binds_kids {t : Tm} (h : t.isLoop = false) (v : Int) (u : Tm) : t.binds v u = (t.kids.map (fun k => k.binds v u)).any id := by
  cases t with
  | dig c => rfl
  | var c => rfl
  | pre c s => simp [Tm.binds, Tm.kids]
  | two c s t => simp [Tm.binds, Tm.kids]
  | loop c i s t => cases h

set_option maxRecDepth 100000 in
set_option maxHeartbeats 4000000 in
theorem wb_kid (t : Tm) (S : Nat → Prop) (ty : TypeId) (pv : Value) (r : Nat) (v : Int) (u : Tm) (w : World) (h2 : t.isLoop = false) (h : PT w S t (.iface ty pv))
    (ih : ∀ k ∈ t.kids, ∀ (S : Nat → Prop) (x : Value) (w' : World), PT w' S k x → w.grownBy w' none → Calls Tryz.prog 26 #[.pointer (some ⟨r, 0, none⟩), x] w' (WBP (k.binds v u) w')) :
    Calls Tryz.prog 26 #[.pointer (some ⟨r, 0, none⟩), .iface ty pv] w (WBP (t.binds v u) w) := by
  rw [binds_kids h2 v u]
  have HI := Lib.hid ih
  have ht2 := ta_noloop h h2
  have hm := method_parts h
  have hrun := run_parts t pv
  have HK := Lib.hid (parts_any t S ty pv w h)
  obtain ⟨res, hres⟩ : ∃ b, (t.kids.map (fun k => k.binds v u)).any id = b := ⟨_, rfl⟩
  rw [hres]
  have HRES := Lib.hid hres
  clear h ih h2 hres
  go_enter Tryz.func26, Tryz.ntmps26
  go_wp2_with fail
  refine HK.out.mono ?_
  rintro e w1 ⟨hg1, sv, xs, rfl, ho, ha⟩
  obtain ⟨A, k, c, rfl⟩ := own_form ho
  obtain ⟨hk, -, -⟩ := orow ho
  have hlen := All2.length _ _ ha
  have hk2 : k ≤ 1000 := by have := kids_len t; omega
  have HC := Lib.hid (contf_any r (t.kids.map (fun k => k.binds v u)) xs _ A k c w1 (by rw [List.length_map]; exact hlen) ho hk2
    (fun j x hx => by
      obtain ⟨tj, xj, htj, hxj, hpj⟩ := ha.get (j := j) (List.getElem?_eq_some_iff.1 hx).1
      rw [hx] at hxj
      cases hxj
      exact hpj.iface)
    (fun j x b w' hx hb hg => by
      obtain ⟨tj, xj, htj, hxj, hpj⟩ := ha.get (j := j) (List.getElem?_eq_some_iff.1 hx).1
      rw [hx] at hxj
      cases hxj
      rw [List.getElem?_map, htj] at hb
      cases hb
      exact HI.out tj (List.mem_of_getElem? htj) _ x w' ((hpj.grown hg1).grown hg) (hg1.trans hg)))
  rw [HRES.out] at HC
  have HG1 := Lib.hid hg1
  clear hg1 ho ha hk hlen hm hrun ht2
  go_wp2_with fail
  refine HC.out.mono ?_
  rintro e w2 ⟨rfl, hg2⟩
  have HG2 := Lib.hid hg2
  clear hg2
  go_wp2_with fail
  go_ret
  exact ⟨rfl, HG1.out.trans HG2.out⟩

theorem wb_any (r fb m : Nat) (v : Int) (u : Tm) (byv : Value) (hv : 0 ≤ v ∧ v ≤ 255) : ∀ (n : Nat) (t : Tm) (S : Nat → Prop) (x : Value) (w : World), t.size ≤ n → n ≤ 1000000 → t.Ok → PT w S t x → RepAt w r fb m v byv u →
    Calls Tryz.prog 26 #[.pointer (some ⟨r, 0, none⟩), x] w (WBP (t.binds v u) w)
  | 0, t, _, _, _, hn, _, _, _, _ => by have := t.size_pos; omega
  | n + 1, t, S, x, w, hn, hn2, ho, h, hr => by
    by_cases h2 : t.isLoop = true
    · cases t <;> try cases h2
      rename_i c i s t
      obtain ⟨g, x, y, rfl, _, hh, hx, hy⟩ := h
      simp only [Tm.size] at hn
      exact wb_loop c i v t (s.binds v u) (t.binds v u) _ _ u.free S r fb m g x y byv w (lb ho.2.1).1 (lb ho.2.1).2 hv.1 hv.2 rfl rfl hy hh hr.blk hr.set
        (fun w' S' h' => free_any n t S' y w' (by omega) (by omega) ho.2.2.2 h')
        (fun w' hg => wb_any r fb m v u byv hv n s S x w' (by omega) (by omega) ho.2.2.1 (hx.grown hg) (hr.grown hg))
        (fun w' hg => wb_any r fb m v u byv hv n t S y w' (by omega) (by omega) ho.2.2.2 (hy.grown hg) (hr.grown hg))
    · obtain ⟨ty, pv, rfl⟩ := h.iface
      refine wb_kid t S ty pv r v u w (by simpa using h2) h (fun k hk S x w' hp hg => ?_)
      obtain ⟨j, hj, rfl⟩ := List.getElem_of_mem hk
      have hst := csum_step (List.getElem?_eq_getElem hj)
      have hlq := csum_take t.kids (j + 1)
      have hks := csum_kids t
      exact wb_any r fb m v u byv hv n _ S x w' (by omega) (by omega) (kids_ok' ho (List.getElem_mem hj)) hp (hr.grown hg)

set_option maxRecDepth 100000 in
set_option maxHeartbeats 2000000 in
/-- replacementOf. -/
theorem repof_any (v : Int) (u : Tm) (S : Nat → Prop) (byv : Value) (w : World) (hu : u.Ok) (hsz : u.size ≤ 1000000) (h : PT w S u byv) :
    Calls Tryz.prog 25 #[.int .u8 v, byv] w fun e w' => ∃ r fb, e = .returned (.pointer (some ⟨r, 0, none⟩)) ∧ w.grownBy w' none ∧ RepAt w' r fb u.size v byv u := by
  obtain ⟨tb, pb, rfl⟩ := h.iface
  have HF := Lib.hid (free_any u.size u S _ w (Nat.le_refl _) hsz hu h)
  have HB := Lib.hid h.any
  clear h
  go_enter Tryz.func25, Tryz.ntmps25
  go_wp2_with fail
  refine HF.out.mono ?_
  rintro e w1 ⟨b, rfl, _, hg1, hv1⟩
  have HG1 := Lib.hid hg1
  have HV1 := Lib.hid hv1
  clear hg1 hv1
  go_wp2_with fail
  go_ret
  exact ⟨_, b, rfl, HG1.out.trans (World.grownBy_alloc _ _ _), heap_alloc_new _ _, (HB.out.grown HG1.out).grown (World.grownBy_alloc _ _ _), HV1.out.grown (World.grownBy_alloc _ _ none) (by simp)⟩
end
end

/- TRepV -/
section
open Go.RowKit

/-- The one variable that a text is. -/
def vch (v : ByteArray) : Option Int := if v.size = 1 ∧ isV (ba v 0) = true then some (ba v 0) else none
theorem one_list {v : ByteArray} (h : v.size = 1) : v.data.toList = [byt (ba v 0)] := by
  have hl : v.data.toList.length = 1 := by rw [Array.length_toList]; exact h
  obtain ⟨x, hx⟩ := List.length_eq_one_iff.1 hl
  have hb : ba v 0 = (x.toNat : Int) := (At.cons (s := v) (p := 0) (c := x) (l := []) ⟨[], [], by simp [hx], rfl⟩).1
  rw [hx, hb]
  simp [byt]
theorem vch_some {v : ByteArray} {c : Int} (h : vch v = some c) : readT v = some (.var c) ∧ isV c = true ∧ v.size = 1 ∧ ba v 0 = c := by
  unfold vch at h
  split at h
  · rename_i hv
    cases h
    exact ⟨readT_back hv.2 (one_list hv.1) (by omega), hv.2, hv.1, rfl⟩
  · cases h
theorem vch_none {v : ByteArray} {c : Int} (h : vch v = none) : readT v ≠ some (.var c) := by
  intro hr
  have hl := readT_len hr
  have ho := (readT_some hr).2.2.1
  have ht := readT_txt hr
  simp only [Tm.txt, List.length_cons, List.length_nil] at hl
  have hv1 : v.size = 1 := by omega
  have hb := one_list hv1
  rw [ht] at hb
  simp only [Tm.txt, List.cons.injEq, and_true] at hb
  have h0 := vb ho
  have hba : ba v 0 = c := by
    have h1 : 0 ≤ ba v 0 := by rw [ba_in (by omega)]; omega
    have := byt_back h1 (ba_hi v 0)
    rw [← hb, byt_back h0.1 h0.2] at this
    exact this.symm
  unfold vch at h
  rw [if_pos ⟨hv1, by rw [hba]; exact ho⟩] at h
  cases h

/-- What ReplaceVar answers. -/
def replA (t v u : ByteArray) : Option ByteArray := match readT t, readT u, vch v with
  | some T, some U, some c => if T.binds c U = true ∨ 80 < (T.rep c U).txt.length then none else some (bytesOf (T.rep c U).txt)
  | _, _, _ => none
def RVP (o : Option ByteArray) (w : World) (e : Ending) (w' : World) : Prop := e = .returned (.tuple #[.string (o.getD ⟨#[]⟩), .bool o.isSome]) ∧ w.grownBy w' none

set_option maxRecDepth 100000 in
set_option maxHeartbeats 4000000 in
theorem repv_impl (t v u : ByteArray) (w : World) :
    Calls Tryz.prog 6 #[.string t, .string v, .string u] w (RVP (replA t v u) w) := by
  have H1 := Lib.hid (fun w => term_any t w)
  have H2 := Lib.hid (fun w => term_any u w)
  obtain ⟨res, hres⟩ : ∃ b, replA t v u = b := ⟨_, rfl⟩
  rw [hres]
  have HRES := Lib.hid hres
  clear hres
  go_enter Tryz.func6, Tryz.ntmps6
  go_wp2_with fail
  refine (H1.out _).mono ?_
  intro e w1 hp1
  unfold TermPost at hp1
  cases hr1 : readT t with
  | none =>
    rw [hr1] at hp1
    obtain ⟨rfl, hg1⟩ := hp1
    have HG1 := Lib.hid hg1
    have HR : Hid (res = none) := Lib.hid (by rw [← HRES.out]; unfold replA; rw [hr1])
    clear hg1 hr1
    go_wp2_with fail
    refine (H2.out _).mono ?_
    intro e w2 hp2
    have hsh : ∃ x b, e = .returned (.tuple #[x, .bool b]) ∧ w1.grownBy w2 none := by
      unfold TermPost at hp2
      cases hr2 : readT u with
      | none => rw [hr2] at hp2; exact ⟨_, _, hp2.1, hp2.2⟩
      | some U => rw [hr2] at hp2; obtain ⟨x, he, hg, _⟩ := hp2; exact ⟨_, _, he, hg⟩
    obtain ⟨x, b, rfl, hg2⟩ := hsh
    have HG2 := Lib.hid hg2
    clear hp2 hg2
    go_wp2_with fail
    go_ret2
    rw [HR.out]
    exact ⟨rfl, HG1.out.trans HG2.out⟩
  | some T =>
    rw [hr1] at hp1
    obtain ⟨x1, rfl, hg1, hpt⟩ := hp1
    obtain ⟨ty1, pv1, rfl⟩ := hpt.iface
    have HG1 := Lib.hid hg1
    have HPT := Lib.hid hpt
    have HR1 := Lib.hid hr1
    clear hg1 hr1 hpt
    go_wp2_with fail
    refine (H2.out _).mono ?_
    intro e w2 hp2
    unfold TermPost at hp2
    cases hr2 : readT u with
    | none =>
      rw [hr2] at hp2
      obtain ⟨rfl, hg2⟩ := hp2
      have HG2 := Lib.hid hg2
      have HR : Hid (res = none) := Lib.hid (by rw [← HRES.out]; unfold replA; rw [HR1.out, hr2])
      clear hg2 hr2
      go_wp2_with fail
      go_ret2
      rw [HR.out]
      exact ⟨rfl, HG1.out.trans HG2.out⟩
    | some U =>
      rw [hr2] at hp2
      obtain ⟨x2, rfl, hg2, hpu⟩ := hp2
      obtain ⟨ty2, pv2, rfl⟩ := hpu.iface
      have HG2 := Lib.hid hg2
      have HPU := Lib.hid hpu
      have HR2 := Lib.hid hr2
      clear hg2 hr2 hpu
      by_cases hs1 : v.size = 1
      · have h0 : 0 < v.size := by omega
        obtain ⟨iv, hiv⟩ : ∃ b, isV (ba v 0) = b := ⟨_, rfl⟩
        have hb0 : 0 ≤ ba v 0 := by rw [ba_in h0]; omega
        have hb1 := ba_hi v 0
        have HO := Lib.hid (fun w => oneofV (ba v 0) hb0 hb1 iv hiv w)
        have HIV := Lib.hid hiv
        have HVC : Hid (vch v = if iv = true then some (ba v 0) else none) := Lib.hid (by
          unfold vch
          rw [hiv]
          cases iv <;> simp [hs1])
        obtain ⟨c, hcb⟩ : ∃ c, ba v 0 = c := ⟨_, rfl⟩
        have hc : ((v[0]'h0).toNat : Int) = c := by rw [← hcb]; exact (ba_in h0).symm
        rw [hcb] at HO hb0 hb1 HVC
        have hs1i : ((v.size : Int) != 1) = false := by rw [hs1]; rfl
        have HS1 := Lib.hid hs1
        clear hiv hs1 hcb
        go_wp2_with fail
        refine (HO.out _).mono ?_
        rintro e w2' ⟨rfl, rfl⟩
        cases iv
        · have HR : Hid (res = none) := Lib.hid (by rw [← HRES.out]; unfold replA; rw [HR1.out, HR2.out, HVC.out]; rfl)
          go_wp2_with fail
          go_ret2
          rw [HR.out]
          exact ⟨rfl, HG1.out.trans HG2.out⟩
        · have HU := Lib.hid (readT_some HR2.out)
          have HT := Lib.hid (readT_some HR1.out)
          have HUL := Lib.hid (readT_len HR2.out)
          have HTL := Lib.hid (readT_len HR1.out)
          have HR : Hid (res = if T.binds c U = true ∨ 80 < (T.rep c U).txt.length then none else some (bytesOf (T.rep c U).txt)) := Lib.hid (by rw [← HRES.out]; unfold replA; rw [HR1.out, HR2.out, HVC.out]; rfl)
          go_wp2_with fail
          refine (repof_any c U _ _ _ HU.out.2.2.1 (by have := HU.out.2.2.2; omega) HPU.out).mono ?_
          rintro e w3 ⟨r, fb, rfl, hg3, hra⟩
          have HG3 := Lib.hid hg3
          have HRA := Lib.hid hra
          have HPT3 := Lib.hid ((HPT.out.grown HG2.out).grown hg3)
          have HWB := Lib.hid (wb_any r fb U.size c U _ ⟨hb0, hb1⟩ 80 T _ _ w3 HT.out.2.2.2 (by omega) HT.out.2.2.1 HPT3.out hra)
          obtain ⟨bd, hbd⟩ : ∃ b, T.binds c U = b := ⟨_, rfl⟩
          rw [hbd] at HWB HR
          clear hg3 hra hbd
          go_wp2_with fail
          refine HWB.out.mono ?_
          rintro e w4 ⟨rfl, hg4⟩
          have HG4 := Lib.hid hg4
          have HIN := Lib.hid (inn_any r c U _ fb 80 T _ _ w4 HT.out.2.2.2 (HPT3.out.grown hg4) (HRA.out.grown hg4).blk (HRA.out.grown hg4).by')
          clear hg4
          cases bd
          · go_wp2_with fail
            refine HIN.out.mono ?_
            rintro e w5 ⟨x5, rfl, hg5, hp5⟩
            obtain ⟨ty5, pv5, rfl⟩ := hp5.iface
            have HG5 := Lib.hid hg5
            have hle : (T.rep c U).txt.length ≤ 80 * 80 := by
              have h1 := T.rep_len c U (by have := HUL.out; have := HU.out.1; omega)
              have h2 := HTL.out
              have h3 := HT.out.1
              omega
            have HTX := Lib.hid (textof_any (T.rep c U) _ ty5 pv5 w5 (T.rep_ok c U HU.out.2.2.1 HT.out.2.2.1) hp5 (by omega))
            obtain ⟨X, hX⟩ : ∃ X, bytesOf (T.rep c U).txt = X := ⟨_, rfl⟩
            have hXs : X.size = (T.rep c U).txt.length := by rw [← hX]; simp [bytesOf, ByteArray.size]
            rw [hX] at HTX HR
            rw [← hXs] at HR
            clear hg5 hp5 hX hXs hle
            go_wp2_with fail
            refine HTX.out.mono ?_
            rintro e w6 ⟨rfl, hg6⟩
            have HG6 := Lib.hid ((((HG1.out.trans HG2.out).trans HG3.out).trans HG4.out).trans (HG5.out.trans hg6))
            clear hg6
            by_cases h80 : 80 < X.size
            · have hgt : (80 : Int) < (X.size : Int) := by omega
              have HRN : Hid (res = none) := Lib.hid (by rw [HR.out, if_pos (.inr h80)])
              clear h80
              go_wp2_with fail
              go_ret2
              rw [HRN.out]
              exact ⟨rfl, HG6.out⟩
            · have hgt : ¬ (80 : Int) < (X.size : Int) := by omega
              have HRN : Hid (res = some X) := Lib.hid (by rw [HR.out, if_neg (by simp [h80])])
              clear h80
              go_wp2_with fail
              go_ret2
              rw [HRN.out]
              exact ⟨rfl, HG6.out⟩
          · have HRN : Hid (res = none) := Lib.hid (by rw [HR.out, if_pos (.inl rfl)])
            go_wp2_with fail
            go_ret2
            rw [HRN.out]
            exact ⟨rfl, ((HG1.out.trans HG2.out).trans HG3.out).trans HG4.out⟩
      · have hs1i : ((v.size : Int) != 1) = true := by simp; omega
        have HR : Hid (res = none) := Lib.hid (by rw [← HRES.out]; unfold replA; rw [HR1.out, HR2.out, show vch v = none from by unfold vch; rw [if_neg (fun h => hs1 h.1)]])
        go_wp2_with fail
        go_ret2
        rw [HR.out]
        exact ⟨rfl, HG1.out.trans HG2.out⟩
end

/- SRepV -/
section
section
open Go.RowKit

theorem srep_any : ∀ (n : Nat) (t u : Tm) (a b v ua ub : Int) (A UA : Option Addr) (k c uk uc : Nat) (S : Nat → Prop) (w : World), t.size ≤ n → n ≤ 1000000 → t.Ok → u.Ok → 0 < v → u.size ≤ 1000000 →
    (∀ x, S x → x < w.heap.size) → SN w S t (a, b, .slice A k c) → SN w S u (ua, ub, .slice UA uk uc) →
    Calls Tryz.prog 30 #[.agg #[.int .u8 a, .int .u8 b, .slice A k c], .int .u8 v, .agg #[.int .u8 ua, .int .u8 ub, .slice UA uk uc]] w (SRP (t.rep v u) (!t.binds v u) S w)
  | 0, t, u, a, b, v, ua, ub, A, UA, k, c, uk, uc, S, w, hn, _, _, _, _, _, _, _, _ => by have := t.size_pos; omega
  | n + 1, t, u, a, b, v, ua, ub, A, UA, k, c, uk, uc, S, w, hn, hn2, hok, huok, hv, husz, hS, ht, hu => by
    by_cases hvar : t = .var v
    · subst hvar
      obtain ⟨h1, h2, _⟩ := ht
      simp only at h1 h2
      subst h1 h2
      have e1 : (Tm.var b).rep b u = u := by simp [Tm.rep]
      have e2 : (Tm.var b).binds b u = false := by simp [Tm.binds]
      rw [e1, e2]
      exact srep_hit b ua ub _ ⟨A, k, c, rfl⟩ UA uk uc u S w hu
    · refine srep_go t u a b v ua ub A UA k c uk uc S w hok huok hv (by omega) (fun d hd e => hvar (by rw [hd, e])) hS ht hu ?_
      intro x hx a2 b2 A2 k2 c2 w' hg hs
      obtain ⟨j, hj⟩ := List.getElem?_of_mem hx
      have hbd : x.size ≤ n := by
        have hst := csum_step hj
        have hlq := csum_take t.kids (j + 1)
        have hks := csum_kids t
        omega
      exact srep_any n x u a2 b2 v ua ub A2 UA k2 c2 uk uc S w' hbd (by omega) (kids_ok' hok hx) huok hv husz (fun y hy => Nat.lt_of_lt_of_le (hS y hy) hg.size) hs (hu.grown hg)
end

section
open Go.RowKit

theorem sterm_shape {s : ByteArray} {w w' : World} {e : Ending} (h : STermPost s w e w') : ∃ a b A k c o, e = .returned (.tuple #[.agg #[.int .u8 a, .int .u8 b, .slice A k c], .bool o]) ∧ w.grownBy w' none ∧ (readT s).isSome = o ∧
    ∀ T, readT s = some T → SN w' (fun b => w.heap.size ≤ b) T (a, b, .slice A k c) := by
  unfold STermPost at h
  cases hr : readT s with
  | none => rw [hr] at h; exact ⟨_, _, _, _, _, _, h.1, h.2, rfl, fun T hT => by cases hT⟩
  | some T =>
    rw [hr] at h
    obtain ⟨a, b, A, k, c, he, hg, hs⟩ := h
    exact ⟨_, _, _, _, _, _, he, hg, rfl, fun T hT => by cases hT; exact hs⟩
theorem repA_n1 {t v u : ByteArray} (h : (readT t).isSome = false) : replA t v u = none := by
  unfold replA
  cases hr : readT t with
  | none => rfl
  | some T => rw [hr] at h; cases h
theorem repA_n2 {t v u : ByteArray} (h : (readT u).isSome = false) : replA t v u = none := by
  unfold replA
  cases hr : readT u with
  | none => cases readT t <;> rfl
  | some T => rw [hr] at h; cases h
theorem repA_n3 {t v u : ByteArray} (h : vch v = none) : replA t v u = none := by
  unfold replA
  rw [h]
  cases readT t <;> cases readT u <;> rfl
theorem vch_read {v : ByteArray} (h : (readT v).isSome = false) : vch v = none := by
  cases hv : vch v with
  | none => rfl
  | some c => rw [(vch_some hv).1] at h; cases h
/-- What is read is a variable exactly if its node's sign says so. -/
theorem vch_sign {v : ByteArray} {w : World} {S : Nat → Prop} {a b : Int} {sv : Value} {T : Tm} (hr : readT v = some T) (h : SN w S T (a, b, sv)) : vch v = if a = 97 then some b else none := by
  have hok := (readT_some hr).2.2.1
  cases hv : T.isV with
  | true =>
    cases T <;> try cases hv
    rename_i c
    obtain ⟨h1, h2, _⟩ := h
    simp only at h1 h2
    subst h1 h2
    rw [if_pos rfl]
    cases hc : vch v with
    | none => exact absurd hr (vch_none hc)
    | some d => rw [(vch_some hc).1] at hr; cases hr; rfl
  | false =>
    rw [if_neg (h.novar hok hv)]
    cases hc : vch v with
    | none => rfl
    | some d => rw [(vch_some hc).1] at hr; cases hr; cases hv

set_option maxRecDepth 100000 in
set_option maxHeartbeats 4000000 in
theorem repv_spec (t v u : ByteArray) (ht : t.size ≤ 1048576) (hv : v.size ≤ 1048576) (hu : u.size ≤ 1048576) (w : World) :
    Calls Tryz.prog 7 #[.string t, .string v, .string u] w (RVP (replA t v u) w) := by
  have H1 := Lib.hid (fun w => sterm_any t ht w)
  have H2 := Lib.hid (fun w => sterm_any u hu w)
  have H3 := Lib.hid (fun w => sterm_any v hv w)
  obtain ⟨res, hres⟩ : ∃ b, replA t v u = b := ⟨_, rfl⟩
  rw [hres]
  have HRES := Lib.hid hres
  clear hres ht hv hu
  go_enter Tryz.func7, Tryz.ntmps7
  go_wp2_with fail
  refine (H1.out _).mono ?_
  intro e w1 hp
  obtain ⟨a1, b1, A1, k1, c1, o1, rfl, hg1, ho1, hs1⟩ := sterm_shape hp
  obtain ⟨x1, hx1⟩ : ∃ x, w1.alloc (.cells #[.int .u8 a1, .int .u8 b1, .slice A1 k1 c1] TN) = x := ⟨_, rfl⟩
  obtain ⟨n1, hn1⟩ : ∃ x, w1.heap.size = x := ⟨_, rfl⟩
  have gx1 : w1.grownBy x1 none := by rw [← hx1]; exact World.grownBy_alloc _ _ _
  have C1 := Lib.hid (show C3 x1 n1 (.int .u8 a1) (.int .u8 b1) (.slice A1 k1 c1) TN by rw [← hx1, ← hn1]; exact c3_new _ _ _ _ _)
  have HG1 := Lib.hid (hg1.trans gx1)
  have HO1 := Lib.hid ho1
  have HS1 := Lib.hid (fun T hT => (hs1 T hT).grown gx1)
  clear hg1 gx1 ho1 hs1 hp
  go_wp2_with fail
  refine (H2.out _).mono ?_
  intro e w2 hp
  obtain ⟨a2, b2, A2, k2, c2, o2, rfl, hg2, ho2, hs2⟩ := sterm_shape hp
  obtain ⟨x2, hx2⟩ : ∃ x, w2.alloc (.cells #[.int .u8 a2, .int .u8 b2, .slice A2 k2 c2] TN) = x := ⟨_, rfl⟩
  obtain ⟨n2, hn2⟩ : ∃ x, w2.heap.size = x := ⟨_, rfl⟩
  have gx2 : w2.grownBy x2 none := by rw [← hx2]; exact World.grownBy_alloc _ _ _
  have C2 := Lib.hid (show C3 x2 n2 (.int .u8 a2) (.int .u8 b2) (.slice A2 k2 c2) TN by rw [← hx2, ← hn2]; exact c3_new _ _ _ _ _)
  have HG2 := Lib.hid (hg2.trans gx2)
  have HO2 := Lib.hid ho2
  have HS2 := Lib.hid (fun T hT => (hs2 T hT).grown gx2)
  clear hg2 gx2 ho2 hs2 hp
  go_wp2_with fail
  refine (H3.out _).mono ?_
  intro e w3 hp
  obtain ⟨a3, b3, A3, k3, c3, o3, rfl, hg3, ho3, hs3⟩ := sterm_shape hp
  obtain ⟨x3, hx3⟩ : ∃ x, w3.alloc (.cells #[.int .u8 a3, .int .u8 b3, .slice A3 k3 c3] TN) = x := ⟨_, rfl⟩
  obtain ⟨n3, hn3⟩ : ∃ x, w3.heap.size = x := ⟨_, rfl⟩
  have gx3 : w3.grownBy x3 none := by rw [← hx3]; exact World.grownBy_alloc _ _ _
  have C3' := Lib.hid (show C3 x3 n3 (.int .u8 a3) (.int .u8 b3) (.slice A3 k3 c3) TN by rw [← hx3, ← hn3]; exact c3_new _ _ _ _ _)
  have HG3 := Lib.hid (hg3.trans gx3)
  have HO3 := Lib.hid ho3
  have HS3 := Lib.hid (fun T hT => (hs3 T hT).grown gx3)
  have HG := Lib.hid ((HG1.out.trans HG2.out).trans HG3.out)
  clear hg3 gx3 ho3 hs3 hp
  cases o1
  · have HR : Hid (res = none) := Lib.hid (by rw [← HRES.out]; exact repA_n1 HO1.out)
    go_wp2_with fail
    go_ret2
    rw [HR.out]
    exact ⟨rfl, HG.out⟩
  cases o2
  · have HR : Hid (res = none) := Lib.hid (by rw [← HRES.out]; exact repA_n2 HO2.out)
    go_wp2_with fail
    go_ret2
    rw [HR.out]
    exact ⟨rfl, HG.out⟩
  cases o3
  · have HR : Hid (res = none) := Lib.hid (by rw [← HRES.out]; exact repA_n3 (vch_read HO3.out))
    go_wp2_with fail
    go_ret2
    rw [HR.out]
    exact ⟨rfl, HG.out⟩
  obtain ⟨T3, hT3⟩ : ∃ T, readT v = some T := Option.isSome_iff_exists.1 HO3.out
  have HV := Lib.hid (vch_sign hT3 (HS3.out T3 hT3))
  have q0 := C3'.out.c0
  by_cases h97 : a3 = 97
  · subst h97
    have HV : Hid (vch v = some b3) := Lib.hid (by rw [HV.out, if_pos rfl])
    obtain ⟨T, hT⟩ : ∃ T, readT t = some T := Option.isSome_iff_exists.1 HO1.out
    obtain ⟨U, hU⟩ : ∃ T, readT u = some T := Option.isSome_iff_exists.1 HO2.out
    have hT4 := readT_some hT
    have hU4 := readT_some hU
    have hTl := readT_len hT
    have hUl := readT_len hU
    have hb3 : 0 < b3 := by have := isV_ge (vch_some HV.out).2.1; omega
    have HST : Hid (SN x3 (fun x => w.heap.size ≤ x ∧ x < x3.heap.size) T (a1, b1, .slice A1 k1 c1)) := Lib.hid ((((HS1.out T hT).grown HG2.out).grown HG3.out).keep (fun _ _ _ => rfl) (fun b hb hl => ⟨hb, hl⟩) _ _)
    have HSU : Hid (SN x3 (fun x => w.heap.size ≤ x ∧ x < x3.heap.size) U (a2, b2, .slice A2 k2 c2)) := Lib.hid (((HS2.out U hU).grown HG3.out).keep (fun _ _ _ => rfl) (fun b hb hl => ⟨by have := HG1.out.size; omega, hl⟩) _ _)
    have HCALL := Lib.hid (srep_any T.size T U a1 b1 b3 a2 b2 A1 A2 k1 c1 k2 c2 (fun x => w.heap.size ≤ x ∧ x < x3.heap.size) x3 (Nat.le_refl _) (by omega) hT4.2.2.1 hU4.2.2.1 hb3 (by omega) (fun x hx => hx.2) HST.out HSU.out)
    have HOKR := Lib.hid (Tm.rep_ok T b3 U hU4.2.2.1 hT4.2.2.1)
    have HLEN := Lib.hid (Tm.rep_len T b3 U (by omega))
    have hl6 : (T.rep b3 U).txt.length ≤ 1000000 := by have := HLEN.out; omega
    have HL6 := Lib.hid hl6
    obtain ⟨good, hgood⟩ : ∃ b, (!T.binds b3 U) = b := ⟨_, rfl⟩
    rw [hgood] at HCALL
    have HGOOD := Lib.hid hgood
    have HREP : Hid (res = if T.binds b3 U = true ∨ 80 < (T.rep b3 U).txt.length then none else some (bytesOf (T.rep b3 U).txt)) := Lib.hid (by rw [← HRES.out]; unfold replA; rw [hT, hU, HV.out])
    obtain ⟨Z, hZ⟩ : ∃ Z, bytesOf (T.rep b3 U).txt = Z := ⟨_, rfl⟩
    have HZ := Lib.hid hZ
    have hzs : Z.size = (T.rep b3 U).txt.length := by rw [← hZ]; exact bytesOf_size _
    have HZS := Lib.hid hzs
    have q1 := C3'.out.c1
    have p0 := (C1.out.grown (HG2.out.trans HG3.out) (by simp)).c0
    have p1 := (C1.out.grown (HG2.out.trans HG3.out) (by simp)).c1
    have p2 := (C1.out.grown (HG2.out.trans HG3.out) (by simp)).c2
    have r0 := (C2.out.grown HG3.out (by simp)).c0
    have r1 := (C2.out.grown HG3.out (by simp)).c1
    have r2 := (C2.out.grown HG3.out (by simp)).c2
    clear hT hU hT4 hU4 hTl hUl hgood hZ hT3 hl6
    go_wp2_with fail
    refine HCALL.out.mono ?_
    rintro e w4 ⟨a4, b4, A4, k4, c4, rfl, hg4, hs4⟩
    obtain ⟨x4, hx4⟩ : ∃ x, w4.alloc (.cells #[.int .u8 a4, .int .u8 b4, .slice A4 k4 c4] TN) = x := ⟨_, rfl⟩
    obtain ⟨n4, hn4⟩ : ∃ x, w4.heap.size = x := ⟨_, rfl⟩
    have gx4 : w4.grownBy x4 none := by rw [← hx4]; exact World.grownBy_alloc _ _ _
    have C4 := Lib.hid (show C3 x4 n4 (.int .u8 a4) (.int .u8 b4) (.slice A4 k4 c4) TN by rw [← hx4, ← hn4]; exact c3_new _ _ _ _ _)
    have HG4 := Lib.hid (HG.out.trans (hg4.trans gx4))
    have HTX := Lib.hid (stxt_any (T.rep b3 U) _ a4 b4 A4 k4 c4 x4 HOKR.out HL6.out (hs4.grown gx4))
    unfold STxtPost at HTX
    rw [HZ.out] at HTX
    clear hg4 hs4 gx4 p0 p1 p2 r0 r1 r2 q0 q1
    have p0 := C4.out.c0
    have p1 := C4.out.c1
    have p2 := C4.out.c2
    go_wp2_with fail
    refine HTX.out.mono ?_
    rintro e w5 ⟨rfl, hg5⟩
    have HG5 := Lib.hid (HG4.out.trans hg5)
    clear hg5 p0 p1 p2
    cases good
    · have HR : Hid (res = none) := Lib.hid (by
        rw [HREP.out, if_pos (.inl (by have := HGOOD.out; simpa using this))])
      go_wp2_with fail
      go_ret2
      rw [HR.out]
      exact ⟨rfl, HG5.out⟩
    · have hb : T.binds b3 U = false := by have := HGOOD.out; simpa using this
      have HB := Lib.hid hb
      clear hb
      by_cases h80 : 80 < Z.size
      · have HR : Hid (res = none) := Lib.hid (by rw [HREP.out, if_pos (.inr (by rw [← HZS.out]; exact h80))])
        go_wp2_with fail
        go_ret2
        rw [HR.out]
        exact ⟨rfl, HG5.out⟩
      · have HR : Hid (res = some Z) := Lib.hid (by
          rw [HREP.out, HZ.out, if_neg (by rw [HB.out, ← HZS.out]; simp; omega)])
        go_wp2_with fail
        go_ret2
        rw [HR.out]
        exact ⟨rfl, HG5.out⟩
  · have HR : Hid (res = none) := Lib.hid (by rw [← HRES.out]; exact repA_n3 (by rw [HV.out, if_neg h97]))
    have hne : (a3 != 97) = true := by simp [h97]
    go_wp2_with fail
    go_ret2
    rw [HR.out]
    exact ⟨rfl, HG.out⟩
end
end

/- RepM -/
section
open Go.RowKit

/-- Does one of the first j letters of F say x? -/
def anyTo (F x : ByteArray) (j : Nat) : Bool := (List.range j).any fun i => (F.extract i (i + 1)).toList == x.toList
theorem anyTo_step (F x : ByteArray) (j : Nat) : anyTo F x (j + 1) = (anyTo F x j || ((F.extract j (j + 1)).toList == x.toList)) := by
  unfold anyTo
  rw [List.range_succ, List.any_append]
  simp
theorem ext_at {F : ByteArray} {i : Nat} {b : UInt8} (h : F.data.toList[i]? = some b) : (F.extract i (i + 1)).toList = [b] := by
  rw [Lib.toList_data]
  have h1 : (F.extract i (i + 1)).data.toList = (F.data.toList.drop i).take 1 := by simp [ByteArray.data_extract]
  rw [h1, ← List.head?_drop] at *
  cases hd : F.data.toList.drop i with
  | nil => rw [hd] at h; cases h
  | cons a l => rw [hd] at h; simp at h; subst h; rfl
theorem anyTo_mem {F x : ByteArray} {b : UInt8} (hx : x.toList = [b]) : anyTo F x F.size = true ↔ b ∈ F.data.toList := by
  unfold anyTo
  rw [List.any_eq_true]
  constructor
  · rintro ⟨i, hi, he⟩
    have hlt : i < F.data.toList.length := by rw [Array.length_toList]; exact List.mem_range.1 hi
    rw [ext_at (List.getElem?_eq_getElem hlt), hx] at he
    have : F.data.toList[i] = b := by simpa using he
    rw [← this]
    exact List.getElem_mem _
  · intro hb
    obtain ⟨i, hi⟩ := List.getElem?_of_mem hb
    have hlt := (List.getElem?_eq_some_iff.1 hi).1
    refine ⟨i, List.mem_range.2 (by rw [Array.length_toList] at hlt; exact hlt), ?_⟩
    rw [ext_at hi, hx]
    simp
theorem one_toList (c : Int) : (one c).toList = [byt c] := by rw [Lib.toList_data, one_data]
theorem frTo_list (T : Tm) : (frTo T 7).data.toList = (vars7.filter fun c => T.free c).map byt := rfl
theorem vars7_bd {c : Int} (h : c ∈ vars7) : 0 ≤ c ∧ c ≤ 255 := by
  simp only [vars7, List.mem_cons, List.not_mem_nil, or_false] at h
  omega
theorem byt_inj {c d : Int} (hc : 0 ≤ c ∧ c ≤ 255) (hd : 0 ≤ d ∧ d ≤ 255) (h : byt c = byt d) : c = d := by
  rw [← byt_back hc.1 hc.2, h, byt_back hd.1 hd.2]
theorem free_mem {T : Tm} (ho : T.Ok) {c : Int} (hc : 0 ≤ c ∧ c ≤ 255) : byt c ∈ (frTo T 7).data.toList ↔ T.free c = true := by
  rw [frTo_list]
  constructor
  · intro h
    obtain ⟨d, hd, he⟩ := List.mem_map.1 h
    obtain ⟨h1, h2⟩ := List.mem_filter.1 hd
    rw [byt_inj (vars7_bd h1) hc he] at h2
    exact h2
  · intro h
    exact List.mem_map.2 ⟨c, List.mem_filter.2 ⟨isV_seven (freeV_isV T c ho h), h⟩, rfl⟩
/-- The letter at a place. -/
theorem free_nth {T : Tm} {i : Nat} (hi : i < (frTo T 7).size) : ∃ d, 0 ≤ d ∧ d ≤ 255 ∧ T.free d = true ∧ ((frTo T 7).extract i (i + 1)).toList = [byt d] := by
  have hlt : i < (frTo T 7).data.toList.length := by rw [Array.length_toList]; exact hi
  obtain ⟨b, hb⟩ : ∃ b, (frTo T 7).data.toList[i]? = some b := ⟨_, List.getElem?_eq_getElem hlt⟩
  have hm := List.mem_of_getElem? hb
  rw [frTo_list] at hm
  obtain ⟨d, hd, he⟩ := List.mem_map.1 hm
  obtain ⟨h1, h2⟩ := List.mem_filter.1 hd
  have := vars7_bd h1
  exact ⟨d, this.1, this.2, h2, by rw [ext_at hb, he]⟩

/-- What a replacement that is made says. -/
theorem repl_some {t v u S : ByteArray} (h : replA t v u = some S) : ∃ T U c, readT t = some T ∧ readT u = some U ∧ vch v = some c ∧ v = one c ∧ 0 ≤ c ∧ c ≤ 255 ∧ T.binds c U = false ∧ S = bytesOf (T.rep c U).txt ∧ readT S = some (T.rep c U) := by
  unfold replA at h
  cases hT : readT t with
  | none => rw [hT] at h; cases h
  | some T =>
    cases hU : readT u with
    | none => rw [hT, hU] at h; cases h
    | some U =>
      cases hc : vch v with
      | none => rw [hT, hU, hc] at h; cases h
      | some c =>
        rw [hT, hU, hc] at h
        simp only at h
        split at h
        · cases h
        · rename_i hn
          cases h
          have hv := vch_some hc
          have hge := isV_ge hv.2.1
          have hvo : v = one c := by
            apply ByteArray.ext
            apply Array.toList_inj.1
            rw [one_list hv.2.2.1, one_data, hv.2.2.2]
          refine ⟨T, U, c, rfl, rfl, rfl, hvo, by omega, by omega, ?_, rfl, ?_⟩
          · cases hb : T.binds c U with
            | false => rfl
            | true => exact absurd (.inl hb) hn
          · exact readT_back (Tm.rep_ok T c U (readT_some hU).2.2.1 (readT_some hT).2.2.1) rfl (by rw [bytesOf_size]; omega)
theorem ptextM {t : ByteArray} {T : Tm} (h : readT t = some T) : t = bytesOf T.txt := by
  apply ByteArray.ext
  apply Array.toList_inj.1
  rw [readT_txt h]
  rfl
theorem repl_self {t v : ByteArray} {T : Tm} {c : Int} (hT : readT t = some T) (hc : vch v = some c) : replA t v v = some t := by
  have hl := readT_len hT
  have h80 := (readT_some hT).1
  unfold replA
  rw [hT, (vch_some hc).1, hc]
  simp only [(Tm.rep_self T c).1, (Tm.rep_self T c).2]
  rw [if_neg (by simp; omega)]
  congr 1
  exact (ptextM hT).symm
theorem repl_idle {T U : Tm} {c : Int} (h : T.free c = false) : T.rep c U = T := (T.rep_id c U h).1
end

/- DrR -/
section
open Go.RowKit

def v7L : List ByteArray := [⟨#[97]⟩, ⟨#[98]⟩, ⟨#[120]⟩, ⟨#[121]⟩, ⟨#[97]⟩, ⟨#[51]⟩, ⟨#[113]⟩]
def u9L : List ByteArray := [⟨#[97]⟩, ⟨#[91, 120, 58, 97, 62, 49, 93]⟩, ⟨#[120]⟩, ⟨#[82, 97]⟩, ⟨#[98]⟩, ⟨#[73, 51]⟩, ⟨#[121]⟩, ⟨#[113]⟩, ⟨#[40, 120, 43, 49, 41]⟩]
theorem v7_size : ∀ s ∈ v7L, s.size ≤ 10 := by
  intro s hs
  simp only [v7L, List.mem_cons, List.not_mem_nil, or_false] at hs
  rcases hs with rfl | rfl | rfl | rfl | rfl | rfl | rfl <;> decide
theorem u9_size : ∀ s ∈ u9L, s.size ≤ 10 := by
  intro s hs
  simp only [u9L, List.mem_cons, List.not_mem_nil, or_false] at hs
  rcases hs with rfl | rfl | rfl | rfl | rfl | rfl | rfl | rfl | rfl <;> decide

/-- How three drawn texts come. -/
def TxtP3 (w : World) (e : Ending) (w' : World) : Prop := ∃ t v u, e = .returned (.tuple #[.string t, .string v, .string u]) ∧ t.size ≤ 161 ∧ v.size ≤ 10 ∧ u.size ≤ 10 ∧ w.grownBy w' none

set_option maxRecDepth 100000 in
set_option maxHeartbeats 4000000 in
theorem drawrep_any (A : Option Addr) (n c : Nat) (w : World) (h : Byts w A n) (hc : n ≤ c) (hn : n ≤ 9223372036854775807) :
    Calls Tryz.prog 5 #[.slice A n c] w (TxtP3 w) := by
  have HO := Lib.hid (open_anyT A n c w h hc hn)
  clear h hc hn
  go_enter Tryz.func5, Tryz.ntmps5
  go_wp2_with fail
  refine HO.out.mono ?_
  rintro e w1 ⟨rfl, ⟨n', c', hn', hr, _⟩, hg⟩
  obtain ⟨g, hgg⟩ : ∃ g, w.heap.size = g := ⟨_, rfl⟩
  rw [hgg] at hr ⊢
  have HS := Lib.hid (some_any g n' c' 0 A w1 hr (by omega) hn')
  have HG := Lib.hid hg
  have HGG := Lib.hid hgg
  clear hr hg hgg
  go_wp2_with fail
  refine HS.out.mono ?_
  rintro e w2 ⟨t, p', rfl, ht, _, hp, hr2, hg2⟩
  have HR2 := Lib.hid (hr2.grown (World.grownBy_alloc w2 (.cells (List.toArray (List.map Value.string v7L)) 9) none) (by simp) (by simp))
  have HG2 := Lib.hid (gr_row5 HG.out hg2 (fun k e => by cases e; have := HGG.out; omega))
  have hlt2 := hr2.lt
  clear hr2 hg2
  go_wp2_with fail
  refine (oftxt_any g n' c' p' A _ 7 v7L _ HR2.out (strs_new w2 v7L _) (fun b off e => by cases e; omega) (by omega) hn' (by decide) (by decide)).mono ?_
  rintro e w3 ⟨v, rfl, hv, hr3, hg3⟩
  have HV := Lib.hid (v7_size v hv)
  have HR3 := Lib.hid (hr3.grown (World.grownBy_alloc w3 (.cells (List.toArray (List.map Value.string u9L)) 9) none) (by simp) (by simp))
  have HG3 := Lib.hid (gr_row5 (HG2.out.trans (World.grownBy_alloc w2 _ none)) hg3 (fun k e => by cases e; have := HGG.out; omega))
  have hlt3 := hr3.lt
  clear hr3 hg3 hv
  go_wp2_with fail
  refine (oftxt_any g n' c' (p' + 1) A _ 9 u9L _ HR3.out (strs_new w3 u9L _) (fun b off e => by cases e; omega) (by omega) hn' (by decide) (by decide)).mono ?_
  rintro e w4 ⟨u, rfl, hu, hr4, hg4⟩
  have HU := Lib.hid (u9_size u hu)
  have HG4 := Lib.hid (gr_row5 (HG3.out.trans (World.grownBy_alloc w3 _ none)) hg4 (fun k e => by cases e; have := HGG.out; omega))
  clear hr4 hg4 hu
  go_wp2_with fail
  refine bodyPost_ret (v := .tuple #[.string t, .string v, .string u]) (by simp [results, Tryz.results5, go_sem]) rfl ?_
  exact ⟨t, v, u, rfl, ht, HV.out, HU.out, HG4.out⟩

theorem strs_ownR {w : World} {B : Nat} {sv : Value} {ss : List ByteArray} (h : w.ownsRow B 9 1 sv ss.length (strV ss)) : ∃ A c, sv = .slice A ss.length c ∧ Strs w A ss := by
  obtain ⟨A, m, c, rfl⟩ := own_form h
  obtain rfl := own_len h
  refine ⟨A, c, rfl, fun hl => ?_⟩
  obtain ⟨_, _, hrow⟩ := orow h
  obtain ⟨g, rfl, _, hg, hc⟩ := hrow hl
  refine ⟨g, 0, rfl, hg, fun j s hj => ?_⟩
  rw [Nat.zero_add]
  exact hc j _ (by simp [strV, hj])
theorem partsA_size {t : ByteArray} : ∀ z ∈ partsA t, z.size ≤ 161 := by
  intro z hz
  unfold partsA at hz
  cases hr : readT t with
  | none => rw [hr] at hz; cases hz
  | some T =>
    rw [hr] at hz
    obtain ⟨k, hk, rfl⟩ := List.mem_map.1 hz
    have h1 := (Tm.kids_ok (readT_some hr).2.2.1 hk).2
    have h2 := readT_len hr
    have h3 := (readT_some hr).1
    rw [bytesOf_size]
    omega

set_option maxRecDepth 100000 in
set_option maxHeartbeats 4000000 in
theorem drawfree_any (A : Option Addr) (n c : Nat) (w : World) (h : Byts w A n) (hc : n ≤ c) (hn : n ≤ 9223372036854775807) :
    Calls Tryz.prog 8 #[.slice A n c] w (TxtP w) := by
  have HO := Lib.hid (open_anyT A n c w h hc hn)
  clear h hc hn
  go_enter Tryz.func8, Tryz.ntmps8
  go_wp2_with fail
  refine HO.out.mono ?_
  rintro e w1 ⟨rfl, ⟨n', c', hn', hr, _⟩, hg⟩
  obtain ⟨g, hgg⟩ : ∃ g, w.heap.size = g := ⟨_, rfl⟩
  rw [hgg] at hr ⊢
  have HS := Lib.hid (some_any g n' c' 0 A w1 hr (by omega) hn')
  have HG := Lib.hid hg
  have HGG := Lib.hid hgg
  clear hr hg hgg
  go_wp2_with fail
  refine HS.out.mono ?_
  rintro e w2 ⟨s, p', rfl, hs, _, hp, hr2, hg2⟩
  have HG2 := Lib.hid (gr_row5 HG.out hg2 (fun k e => by cases e; have := HGG.out; omega))
  have HR2 := Lib.hid hr2
  have HP := Lib.hid (tpts_spec s (by omega) w2)
  have HZ := Lib.hid (partsA_size (t := s))
  have HNB := Lib.hid (partsA_len s)
  obtain ⟨PP, hPP⟩ : ∃ P, partsA s = P := ⟨_, rfl⟩
  rw [hPP] at HP HZ HNB
  clear hr2 hg2 hPP
  go_wp2_with fail
  refine HP.out.mono ?_
  rintro e w3 ⟨sv, rfl, hg3, ho3⟩
  obtain ⟨A3, c3, rfl, hs3⟩ := strs_ownR ho3
  have HG3 := Lib.hid (HG2.out.trans hg3)
  have HR3 := Lib.hid (HR2.out.grown hg3 (by simp) (by simp))
  have HS3 := Lib.hid hs3
  have hlt2 := HR2.out.lt
  have HSG := Lib.hid (fun b off (e : A3 = some ⟨b, off, none⟩) => show w2.heap.size ≤ b from by
    subst e
    exact (ho3.lt b rfl).1)
  obtain ⟨np, hnp⟩ : ∃ k, PP.length = k := ⟨_, rfl⟩
  have HNP := Lib.hid hnp
  have hnb : np ≤ 1000000 := by have := HNB.out; omega
  rw [hnp]
  clear hg3 ho3 hs3 hnp
  by_cases h0 : np = 0
  · subst h0
    go_wp2_with fail
    go_ret
    exact ⟨s, rfl, hs, HG3.out⟩
  · have h1 : 0 < np := by omega
    have HK := Lib.hid (pick_any g n' c' p' A 2 w3 HR3.out (by omega) hn' (by omega) (by omega))
    go_wp2_with fail
    refine HK.out.mono ?_
    rintro e w4 ⟨x, rfl, hx0, hx1, hr4, hg4⟩
    have HG4 := Lib.hid (gr_row5 HG3.out hg4 (fun k e => by cases e; have := HGG.out; omega))
    by_cases hx : x = 0
    · subst hx
      obtain ⟨q, rfl⟩ : ∃ q, np = q + 1 := ⟨np - 1, by omega⟩
      obtain ⟨z, hz⟩ : ∃ z, PP[q]? = some z := ⟨_, List.getElem?_eq_getElem (by have := HNP.out; omega)⟩
      have hzs := HZ.out z (List.mem_of_getElem? hz)
      obtain ⟨b5, off5, rfl, hc0⟩ := (HS3.out.grownG hg4 (fun b off e => by
        cases e
        have := HSG.out b off rfl
        simp; omega)).at_ hz
      have hq1 : ((q + 1 : Nat) : Int) - 1 = (q : Int) := by omega
      go_wp2_with fail
      go_ret
      exact ⟨z, rfl, hzs, HG4.out⟩
    · have hxb : (x == 0) = false := by rw [beq_eq_false_iff_ne]; exact hx
      go_wp2_with fail
      go_ret
      exact ⟨s, rfl, hs, HG4.out⟩
end

/- Lawdreplace -/
section
open Go.ChangeShapes Go.WideShapes Go.ChangeAt Go.RowKit
open Go.ChangeMaps (open_string shut_string)

set_option maxRecDepth 100000 in
set_option maxHeartbeats 16000000 in
theorem law_dreplace (A B : Option Addr) (n c m d : Nat) (w : World) (hA : Byts w A n) (hc : n ≤ c) (hn : n ≤ 9223372036854775807) (hB : Byts w B m) (hd : m ≤ d) (hm : m ≤ 9223372036854775807) :
    Calls Tryz.prog 3 #[.slice A n c, .slice B m d] w fun e w' => e = .returned (.bool true) ∧ w.grownBy w' none := by
  by_cases h1 : 1048576 < n
  · clear hA hB
    go_enter Tryz.func3, Tryz.ntmps3
    go_wp2_with fail
    go_ret
    exact ⟨rfl, gr_refl _ _⟩
  by_cases h2 : 1048576 < m
  · clear hA hB
    go_enter Tryz.func3, Tryz.ntmps3
    go_wp2_with fail
    go_ret
    exact ⟨rfl, gr_refl _ _⟩
  have HD := Lib.hid (drawrep_any A n c w hA hc hn)
  have HBY := Lib.hid hB
  clear hA hB hc
  go_enter Tryz.func3, Tryz.ntmps3
  go_wp2_with fail
  refine HD.out.mono ?_
  rintro e w1 ⟨t, v, u, rfl, ht, hv, hu, hg1⟩
  have HG1 := Lib.hid hg1
  have RI := Lib.hid (fun w => repv_impl t v u w)
  have RS2 := Lib.hid (fun w => repv_spec t v u (by omega) (by omega) (by omega) w)
  unfold RVP at RI RS2
  obtain ⟨R, hR⟩ : ∃ R, replA t v u = R := ⟨_, rfl⟩
  rw [hR] at RI RS2
  have HRR := Lib.hid hR
  clear hg1 HD hR
  go_wp2_with fail
  refine (RI.out _).mono ?_
  rintro e w2 ⟨rfl, hg2⟩
  have HG2 := Lib.hid (HG1.out.trans hg2)
  clear hg2
  go_wp2_with fail
  refine (RS2.out _).mono ?_
  rintro e w3 ⟨rfl, hg3⟩
  have HG3 := Lib.hid (HG2.out.trans hg3)
  have HDF := Lib.hid (drawfree_any B m d w3 (HBY.out.grown HG3.out (by simp)) hd hm)
  clear hg3
  go_wp2_with fail
  refine HDF.out.mono ?_
  rintro e w4 ⟨z, rfl, hz, hg4⟩
  have HG4 := Lib.hid (HG3.out.trans hg4)
  have V1 := Lib.hid (fun w => freev_impl z w)
  have V2 := Lib.hid (fun w => freev_spec z (by omega) w)
  obtain ⟨FZ, hFZ⟩ : ∃ F, freeA z = F := ⟨_, rfl⟩
  rw [hFZ] at V1 V2
  clear hg4 hFZ
  cases R with
  | none =>
    simp only [Option.getD_none, Option.isSome_none]
    go_wp2_with fail
    refine (V1.out _).mono ?_
    rintro e w5 ⟨rfl, hg5⟩
    have HG5 := Lib.hid (HG4.out.trans hg5)
    clear hg5
    go_wp2_with fail
    refine (V2.out _).mono ?_
    rintro e w6 ⟨rfl, hg6⟩
    have HG6 := Lib.hid (HG5.out.trans hg6)
    clear hg6
    go_wp2_with fail
    refine (V1.out _).mono ?_
    rintro e w7 ⟨rfl, hg7⟩
    have HG7 := Lib.hid (HG6.out.trans hg7)
    clear hg7
    go_wp2_with fail
    refine (V2.out _).mono ?_
    rintro e w8 ⟨rfl, hg8⟩
    have HG8 := Lib.hid (HG7.out.trans hg8)
    clear hg8
    go_wp2_with fail
    go_ret
    exact ⟨rfl, HG8.out⟩
  | some S =>
    simp only [Option.getD_some, Option.isSome_some]
    obtain ⟨T, U, cc, hT, hU, hvc, hvo, hc0, hc1, hbd, hS, hrS⟩ := repl_some HRR.out
    have hokT := (readT_some hT).2.2.1
    have hokU := (readT_some hU).2.2.1
    have hokS := (readT_some hrS).2.2.1
    have HT := Lib.hid hT
    have HU := Lib.hid hU
    have HRS := Lib.hid hrS
    have HVC := Lib.hid hvc
    have HBD := Lib.hid hbd
    have HSB := Lib.hid hS
    have hvl : v.toList = [byt cc] := by rw [hvo]; exact one_toList cc
    have HVL := Lib.hid hvl
    have h1f : freeA t = frTo T 7 := by unfold freeA; rw [hT]
    have h2f : freeA S = frTo (T.rep cc U) 7 := by unfold freeA; rw [hrS]
    have h3f : freeA u = frTo U 7 := by unfold freeA; rw [hU]
    have W1 := Lib.hid (fun w => freev_impl t w)
    have W2 := Lib.hid (fun w => freev_impl S w)
    have W3 := Lib.hid (fun w => freev_impl u w)
    rw [h1f] at W1
    rw [h2f] at W2
    rw [h3f] at W3
    have z1 := frTo_size T 7
    have z2 := frTo_size (T.rep cc U) 7
    have z3 := frTo_size U 7
    have HM1 := Lib.hid (fun (d : Int) (hd : 0 ≤ d ∧ d ≤ 255) (x : ByteArray) (hx : x.toList = [byt d]) => (anyTo_mem (F := frTo T 7) hx).trans (free_mem hokT hd))
    have HM3 := Lib.hid (fun (d : Int) (hd : 0 ≤ d ∧ d ≤ 255) (x : ByteArray) (hx : x.toList = [byt d]) => (anyTo_mem (F := frTo U 7) hx).trans (free_mem hokU hd))
    have HNT := Lib.hid (fun (i : Nat) (hi : i < (frTo (T.rep cc U) 7).size) => free_nth (T := T.rep cc U) hi)
    have HRF := Lib.hid (fun d (hd : (T.rep cc U).free d = true) => Tm.rep_free T cc U d hbd hd)
    obtain ⟨F1, hF1⟩ : ∃ F, frTo T 7 = F := ⟨_, rfl⟩
    obtain ⟨F2, hF2⟩ : ∃ F, frTo (T.rep cc U) 7 = F := ⟨_, rfl⟩
    obtain ⟨F3, hF3⟩ : ∃ F, frTo U 7 = F := ⟨_, rfl⟩
    rw [hF1] at W1 z1 HM1
    rw [hF2] at W2 z2 HNT
    rw [hF3] at W3 z3 HM3
    clear hT hU hrS hvc hbd hS hvl hvo h1f h2f h3f hF1 hF2 hF3 hokT hokU hokS
    go_wp2_with fail
    refine (V1.out _).mono ?_
    rintro e w5 ⟨rfl, hg5⟩
    have HG5 := Lib.hid (HG4.out.trans hg5)
    clear hg5
    go_wp2_with fail
    refine (V2.out _).mono ?_
    rintro e w6 ⟨rfl, hg6⟩
    have HG6 := Lib.hid (HG5.out.trans hg6)
    clear hg6
    go_wp2_with fail
    refine (W1.out _).mono ?_
    rintro e w7 ⟨rfl, hg7⟩
    have HG7 := Lib.hid (HG6.out.trans hg7)
    clear hg7
    go_wp2_with fail
    refine (W2.out _).mono ?_
    rintro e w8 ⟨rfl, hg8⟩
    have HG8 := Lib.hid (HG7.out.trans hg8)
    clear hg8
    go_wp2_with fail
    refine (W3.out _).mono ?_
    rintro e w9 ⟨rfl, hg9⟩
    have HG9 := Lib.hid (HG8.out.trans hg9)
    clear hg9
    go_wp2_with fail
    go_loopw [16, 97] (fun a i wr => ∃ j : Nat, j ≤ F1.size ∧ i = .int .i64 j ∧ a = .bool (anyTo F1 v j) ∧ Hid (w.grownBy wr none)) (fun _ i _ => F1.size - (intOf i).toNat)
    case atStart => exact ⟨0, Nat.zero_le _, rfl, rfl, HG9⟩
    case round =>
      obtain ⟨j, hj, rfl, rfl, HGr⟩ := hrel
      by_cases hlt : j < F1.size
      · have HST := Lib.hid (anyTo_step F1 v j)
        obtain ⟨sb, hsb⟩ : ∃ x, anyTo F1 v j = x := ⟨_, rfl⟩
        obtain ⟨eb, heb⟩ : ∃ x, ((F1.extract j (j + 1)).toList == v.toList) = x := ⟨_, rfl⟩
        rw [hsb, heb] at HST
        rw [hsb]
        clear hsb
        cases sb
        · cases eb
          all_goals
            go_wp2_with fail
            go_roundw
            case rel => exact ⟨j + 1, by omega, by go_num, by rw [HST.out]; rfl, by first | exact HGr | exact Lib.hid (HGr.out.trans (gr_drewN _ _ none))⟩
            case measure => simp [intOf]; omega
        · go_wp2_with fail
          go_roundw
          case rel => exact ⟨j + 1, by omega, by go_num, by rw [HST.out]; rfl, by first | exact HGr | exact Lib.hid (HGr.out.trans (gr_drewN _ _ none))⟩
          case measure => simp [intOf]; omega
      · have hjn : j = F1.size := by omega
        subst hjn
        have HST := Lib.hid (HM1.out cc ⟨hc0, hc1⟩ v HVL.out)
        obtain ⟨sb, hsb⟩ : ∃ x, anyTo F1 v F1.size = x := ⟨_, rfl⟩
        rw [hsb] at HST ⊢
        clear hj hsb
        cases sb
        · have hidle : T.rep cc U = T := repl_idle (by
            cases hf : T.free cc with
            | false => rfl
            | true => have := HST.out.2 hf; cases this)
          have hSt : S = t := by rw [HSB.out, hidle]; exact (ptextM HT.out).symm
          subst hSt
          go_wp2_with fail
          go_ret
          exact ⟨rfl, HGr.out⟩
        · have HSELF := Lib.hid (repl_self HT.out HVC.out)
          have RV := Lib.hid (fun w => repv_impl t v v w)
          unfold RVP at RV
          rw [HSELF.out] at RV
          simp only [Option.getD_some, Option.isSome_some] at RV
          go_wp2_with fail
          go_loopw [118] (fun i wr => ∃ j : Nat, j ≤ F2.size ∧ i = .int .i64 j ∧ Hid (w.grownBy wr none)) (fun i _ => F2.size - (intOf i).toNat)
          case atStart => exact ⟨0, Nat.zero_le _, rfl, HGr⟩
          case round =>
            clear HGr
            obtain ⟨j, hj, rfl, HGr⟩ := hrel
            by_cases hlt : j < F2.size
            · obtain ⟨d, hd0, hd1, hdf, hdl⟩ := HNT.out j hlt
              have HDF2 := Lib.hid (HRF.out d hdf)
              obtain ⟨x2, hx2⟩ : ∃ x, F2.extract j (j + 1) = x := ⟨_, rfl⟩
              rw [hx2] at hdl
              have M1 := Lib.hid (HM1.out d ⟨hd0, hd1⟩ x2 hdl)
              have M3 := Lib.hid (HM3.out d ⟨hd0, hd1⟩ x2 hdl)
              obtain ⟨nb, hnb⟩ : ∃ b, (x2.toList == v.toList) = b := ⟨_, rfl⟩
              have HNB : Hid (d ≠ cc → nb = false) := Lib.hid (fun hne => by
                rw [← hnb, hdl, HVL.out, beq_eq_false_iff_ne]
                intro e
                exact hne (byt_inj ⟨hd0, hd1⟩ ⟨hc0, hc1⟩ (by simpa using e)))
              clear hdf hdl
              go_wp2_with fail
              go_loopw [20, 128] (fun a i wr => ∃ k : Nat, k ≤ F3.size ∧ i = .int .i64 k ∧ a = .bool (anyTo F3 x2 k) ∧ Hid (w.grownBy wr none)) (fun _ i _ => F3.size - (intOf i).toNat)
              case atStart => exact ⟨0, Nat.zero_le _, rfl, rfl, HGr⟩
              case round =>
                clear HGr
                obtain ⟨k, hk, rfl, rfl, HGr⟩ := hrel
                by_cases hlk : k < F3.size
                · have HST := Lib.hid (anyTo_step F3 x2 k)
                  obtain ⟨sb, hsb⟩ : ∃ x, anyTo F3 x2 k = x := ⟨_, rfl⟩
                  obtain ⟨eb, heb⟩ : ∃ x, ((F3.extract k (k + 1)).toList == x2.toList) = x := ⟨_, rfl⟩
                  rw [hsb, heb] at HST
                  rw [hsb]
                  clear hsb
                  cases sb
                  · cases eb
                    all_goals
                      go_wp2_with fail
                      go_roundw
                      case rel => exact ⟨k + 1, by omega, by go_num, by rw [HST.out]; rfl, by first | exact HGr | exact Lib.hid (HGr.out.trans (gr_drewN _ _ none))⟩
                      case measure => simp [intOf]; omega
                  · go_wp2_with fail
                    go_roundw
                    case rel => exact ⟨k + 1, by omega, by go_num, by rw [HST.out]; rfl, by first | exact HGr | exact Lib.hid (HGr.out.trans (gr_drewN _ _ none))⟩
                    case measure => simp [intOf]; omega
                · have hkn : k = F3.size := by omega
                  subst hkn
                  obtain ⟨tb, htb⟩ : ∃ x, anyTo F3 x2 F3.size = x := ⟨_, rfl⟩
                  rw [htb] at M3 ⊢
                  clear htb
                  go_wp2_with fail
                  go_loopw [20, 144] (fun a i wr => ∃ q : Nat, q ≤ F1.size ∧ i = .int .i64 q ∧ a = .bool (tb || (anyTo F1 x2 q && !nb)) ∧ Hid (w.grownBy wr none)) (fun _ i _ => F1.size - (intOf i).toNat)
                  case atStart => exact ⟨0, Nat.zero_le _, rfl, by simp [anyTo], HGr⟩
                  case round =>
                    clear HGr
                    obtain ⟨q, hq, rfl, rfl, HGr⟩ := hrel
                    by_cases hlq : q < F1.size
                    · have HST := Lib.hid (anyTo_step F1 x2 q)
                      obtain ⟨sb, hsb⟩ : ∃ x, anyTo F1 x2 q = x := ⟨_, rfl⟩
                      obtain ⟨eb, heb⟩ : ∃ x, ((F1.extract q (q + 1)).toList == x2.toList) = x := ⟨_, rfl⟩
                      rw [hsb, heb] at HST
                      rw [hsb]
                      clear hsb
                      cases tb <;> cases sb <;> cases nb <;> cases eb
                      all_goals
                        go_wp2_with fail
                        go_roundw
                        case rel => exact ⟨q + 1, by omega, by go_num, by rw [HST.out]; rfl, by first | exact HGr | exact Lib.hid (HGr.out.trans (gr_drewN _ _ none))⟩
                        case measure => simp [intOf]; omega
                    · have hqn : q = F1.size := by omega
                      subst hqn
                      have htrue : (tb || (anyTo F1 x2 F1.size && !nb)) = true := by
                        rcases HDF2.out with ⟨h1, h2⟩ | ⟨h1, _⟩
                        · rw [M1.out.2 h1, HNB.out h2]; simp
                        · rw [M3.out.2 h1]; simp
                      rw [htrue]
                      clear htrue
                      go_wp2_with fail
                      go_roundw
                      case rel => exact ⟨j + 1, by omega, by go_num, HGr⟩
                      case measure => simp [intOf]; omega
            · clear hj
              go_wp2_with fail
              refine (RV.out _).mono ?_
              rintro e wx ⟨rfl, hgx⟩
              have HGx := Lib.hid (HGr.out.trans hgx)
              clear hgx
              have D1 := Lib.hid (fun w => tdepth_impl u w)
              have D2 := Lib.hid (fun w => tdepth_impl t w)
              have D3 := Lib.hid (fun w => tdepth_impl S w)
              obtain ⟨du, hdu⟩ : ∃ x, depthA u = x := ⟨_, rfl⟩
              obtain ⟨dt, hdt⟩ : ∃ x, depthA t = x := ⟨_, rfl⟩
              have HEQ : Hid (cc = 97 → du = 1 → depthA S = dt) := Lib.hid (fun hc h1 => by
                have e1 : depthA S = (T.rep cc U).depth env0 := by unfold depthA; rw [HRS.out]
                have e2 : depthA t = T.depth env0 := by unfold depthA; rw [HT.out]
                have e3 : depthA u = U.depth env0 := by unfold depthA; rw [HU.out]
                rw [← hdt, e1, e2]
                refine Tm.rep_depth T cc U env0 HBD.out ?_
                rw [← e3, hdu, h1, hc]
                rfl)
              rw [hdu] at D1
              rw [hdt] at D2
              clear hdu hdt
              by_cases h97 : cc = 97
              · have hva : (v.toList == [97]) = true := by rw [HVL.out, h97]; rfl
                go_wp2_with fail
                refine (D1.out _).mono ?_
                rintro e wy ⟨rfl, hgy⟩
                have HGy := Lib.hid (HGx.out.trans hgy)
                clear hgy
                by_cases h1 : du = 1
                · have h1b : (du == 1) = true := by simp [h1]
                  have he := HEQ.out h97 h1
                  rw [he] at D3
                  have hdd : (dt != dt) = false := by simp
                  clear he h1
                  go_wp2_with fail
                  refine (D2.out _).mono ?_
                  rintro e wa ⟨rfl, hga⟩
                  have HGa := Lib.hid (HGy.out.trans hga)
                  clear hga
                  go_wp2_with fail
                  refine (D3.out _).mono ?_
                  rintro e wb ⟨rfl, hgb⟩
                  have HGb := Lib.hid (HGa.out.trans hgb)
                  clear hgb
                  go_wp2_with fail
                  go_ret
                  exact ⟨rfl, HGb.out⟩
                · have h1b : (du == 1) = false := by simp [h1]
                  go_wp2_with fail
                  go_ret
                  exact ⟨rfl, HGy.out⟩
              · have hva : (v.toList == [97]) = false := by
                  rw [HVL.out, beq_eq_false_iff_ne]
                  intro e
                  exact h97 (byt_inj ⟨hc0, hc1⟩ ⟨by omega, by omega⟩ (show byt cc = byt 97 from (List.cons.inj e).1))
                go_wp2_with fail
                go_ret
                exact ⟨rfl, HGx.out⟩

set_option maxRecDepth 100000 in
theorem dreplace_lifted (os : Os) (started : os.Started) (H : Type) (enc : TypeId × Value → H) :
    ReturnsInHanded {} Tryz.checked os 3 .any (Rows.fnReplaceSpec.pre6 enc Tryz.prog Tryz.f3 Rows.fnReplaceRow.domain false) (Rows.fnReplaceSpec.post enc Tryz.prog Tryz.f3 false true false false) := by
  refine returnsInHanded_of_change (C := Tryz.checked) knob_own started (by kernel_rfl) Tryz.func3
    (ChangeSpec.witness6 (enc := enc) (C := Tryz.checked) false ⟨#[], #[.slice none 0 0, .slice none 0 0], []⟩ 8 (by kernel_rfl) (by kernel_rfl) (by kernel_rfl) (by kernel_rfl)) ?_
  intro W base args ds gs before hval0 hW hcnd _
  have hval : ∀ (j : Nat) t v, Tryz.f3.params[j]? = some t → args[j]? = some v → Value.okWide Tryz.prog W .any base t v := hval0
  have hW' := hW
  obtain ⟨p, q, hA0, hV, rfl, hfz, hnd⟩ := hW
  have hA : DataW.TrodAll enc Tryz.prog W 0 (fun _ => true) true Tryz.f3.params.toList args.toList ds p := hA0
  rw [Tryz.params3] at hA hval
  obtain ⟨v0, v1, d0, d1, p0, p1, rfl, rfl, rfl, h0, h1⟩ := trodAll_two hA
  obtain ⟨rfl, rfl⟩ := trodVars_none hV
  obtain ⟨A, n, c, rfl, a1, a2, a3⟩ := open_bytsT (hval 0 22 v0 rfl rfl) h0
  obtain ⟨B, m, d, rfl, b1, b2, b3⟩ := open_bytsT (hval 1 22 v1 rfl rfl) h1
  clear hA0 hval0
  simp only [List.append_nil] at hW'
  have hlt : ∀ x ∈ p0 ++ p1, x.block < W.heap.size := fun x hx => by simpa using hW'.lt x hx
  refine (law_dreplace A B n c m d W a3 a1 a2 b3 b1 b2).mono fun e W' ⟨he, hg⟩ => ?_
  subst he
  refine ⟨_, rfl, _, _, _, [], p0 ++ p1, [], hW', ?_, ?_, rfl, (below_of hg).frame _, fun h => by cases h⟩
  · exact trodAll_mk1 (shut_bool Tryz.underlying4 _)
  · exact trodAll_mk2 (Below.trod laid_out_p (by kernel_rfl) (of_decide_eq_true (by kernel_rfl)) h0 (below_of hg) (fun x hx => hlt x (List.mem_append_left _ hx))) (Below.trod laid_out_p (by kernel_rfl) (of_decide_eq_true (by kernel_rfl)) h1 (below_of hg) (fun x hx => hlt x (List.mem_append_right _ hx)))

theorem dreplace_holds : Rows.FnReplaceSaid :=
  OpenClaim.holds_of_wide 3 Tryz.f3 rfl rfl rfl rfl rfl rfl rfl ⟨rfl, rfl, rfl, rfl, rfl⟩ rfl rfl rfl rfl rfl fdreplace_name Tryz.func3 fdreplace_all fdreplace_inst fdreplace_wrap
    (fun os started H enc _ => (dreplace_lifted os started H enc))

#print axioms dreplace_holds
end

end Go.Proofs.YtboddoaekcchpaaGreat
