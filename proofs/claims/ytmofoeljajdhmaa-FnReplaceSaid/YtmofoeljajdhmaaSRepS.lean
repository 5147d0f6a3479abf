/- The state of l5Replace's loop: its boxes, the parts so far in a row of its own; one part more. -/
import Derived.Test.YtmofoeljajdhmaaSFree
import Derived.Test.YtmofoeljajdhmaaSTNode
namespace Go.Proofs.Ytmofoeljajdhmaa
section
open Go.RowKit

abbrev TN : TypeId := 70
theorem gr_some2 {w w' : World} {g : Nat} (h : w.grownBy w' none) : w.grownBy w' (some g) := ⟨h.os, h.tape, h.output, h.size, fun k hk _ => h.block k hk (by simp)⟩
theorem gr_none {w w' : World} {g : Nat} (h : w.grownBy w' (some g)) (hg : w.heap.size ≤ g) : w.grownBy w' none := ⟨h.os, h.tape, h.output, h.size, fun k hk _ => h.block k hk (by simp; omega)⟩
theorem infoNode : (Try.prog.info? 70).map (fun i => (i.zero, i.size, i.bytes)) = some (some (.agg #[.int .u8 0, .int .u8 0, .slice none 0 0]), 3, 32) := by kernel_rfl

/-- How it ends. -/
def SRP (t' : Tm) (good : Bool) (S : Nat → Prop) (w : World) (e : Ending) (w' : World) : Prop :=
  ∃ a b A k c, e = .returned (.tuple #[.agg #[.int .u8 a, .int .u8 b, .slice A k c], .bool good]) ∧ w.grownBy w' none ∧ SN w' (fun x => S x ∨ w.heap.size ≤ x) t' (a, b, .slice A k c)

set_option maxRecDepth 100000 in
set_option maxHeartbeats 2000000 in
theorem srep_hit (v ua ub : Int) (sv : Value) (hsv : ∃ A k c, sv = .slice A k c) (UA : Option Addr) (uk uc : Nat) (u : Tm) (S : Nat → Prop) (w : World) (hu : SN w S u (ua, ub, .slice UA uk uc)) :
    Calls Try.prog 77 #[.agg #[.int .u8 97, .int .u8 v, sv], .int .u8 v, .agg #[.int .u8 ua, .int .u8 ub, .slice UA uk uc]] w (SRP u true S w) := by
  obtain ⟨A, k, c, rfl⟩ := hsv
  have HU := Lib.hid hu
  obtain ⟨h, hh⟩ : ∃ h, w.heap.size = h := ⟨_, rfl⟩
  obtain ⟨w1, hw1⟩ : ∃ w1, w.alloc (.cells #[.int .u8 97, .int .u8 v, .slice A k c] TN) = w1 := ⟨_, rfl⟩
  have z1 : w1.heap.size = h + 1 := by rw [← hw1, World.size_alloc, hh]
  have k1 : C3 w1 h (.int .u8 97) (.int .u8 v) (.slice A k c) TN := by rw [← hw1, ← hh]; exact c3_new _ _ _ _ _
  have g1 : w.grownBy w1 none := by rw [← hw1]; exact World.grownBy_alloc _ _ _
  obtain ⟨w2, hw2⟩ : ∃ w2, w1.alloc (.cells #[.int .u8 ua, .int .u8 ub, .slice UA uk uc] TN) = w2 := ⟨_, rfl⟩
  have z2 : w2.heap.size = h + 2 := by rw [← hw2, World.size_alloc, z1]
  have k2 : C3 w2 (h + 1) (.int .u8 ua) (.int .u8 ub) (.slice UA uk uc) TN := by rw [← hw2, ← z1]; exact c3_new _ _ _ _ _
  have g2 : w.grownBy w2 none := by rw [← hw2]; exact g1.trans (World.grownBy_alloc _ _ _)
  obtain ⟨w3, hw3⟩ : ∃ w3, w2.alloc (.cells #[.int .u8 0, .int .u8 0, .slice none 0 0] TN) = w3 := ⟨_, rfl⟩
  have k3 : C3 w3 (h + 2) (.int .u8 0) (.int .u8 0) (.slice none 0 0) TN := by rw [← hw3, ← z2]; exact c3_new _ _ _ _ _
  have g3 : w.grownBy w3 none := by rw [← hw3]; exact g2.trans (World.grownBy_alloc _ _ _)
  have k1' : C3 w3 h (.int .u8 97) (.int .u8 v) (.slice A k c) TN := by rw [← hw3, ← hw2]; exact (k1.alloc _).alloc _
  have k2' : C3 w3 (h + 1) (.int .u8 ua) (.int .u8 ub) (.slice UA uk uc) TN := by rw [← hw3]; exact k2.alloc _
  have K3 := Lib.hid k3
  have G3 := Lib.hid g3
  have HH := Lib.hid hh
  have n0 := k1'.c0
  have n1 := k1'.c1
  have u0 := k2'.c0
  have u1 := k2'.c1
  have u2 := k2'.c2
  have r0 := k3.c0
  have r1 := k3.c1
  have r2 := k3.c2
  have f0 := k3.f 0
  have f1 := k3.f 1
  have f2 := k3.f 2
  clear hu k1 k2 k3 k1' k2' g1 g2 g3
  go_enter Try.func77, Try.ntmps77
  go_wp2_with fail
  have HL := Lib.hid (K3.out.laid (x' := .int .u8 ua) (y' := .int .u8 ub) (z' := .slice UA uk uc))
  have HG : Hid (w.grownBy (laid3 w3 (h + 2) (.int .u8 ua) (.int .u8 ub) (.slice UA uk uc)) none) := Lib.hid (gr_none (gr_laid3 (g := h + 2) (gr_some2 G3.out) (by have := HH.out; omega) _ _ _) (by have := HH.out; omega))
  clear n0 n1 u0 u1 u2 r0 r1 r2 f0 f1 f2
  have n0 := HL.out.c0
  have n1 := HL.out.c1
  have n2 := HL.out.c2
  unfold laid3 at n0 n1 n2
  refine bodyPost_ret (v := .tuple #[.agg #[.int .u8 ua, .int .u8 ub, .slice UA uk uc], .bool true]) (by simp [results, Try.results77, go_sem, n0, n1, n2]) rfl ?_
  exact ⟨_, _, _, _, _, rfl, HG.out, HU.out.keep (fun b _ hl => HG.out.block b hl (by simp)) (fun b hb _ => .inl hb) _ _⟩
end

section
open Go.RowKit

/-- The parts after a replacement; whether nothing is bound at each. -/
def repK : Tm → Int → Tm → List Tm
  | .dig _, _, _ => []
  | .var _, _, _ => []
  | .pre _ s, v, u => [s.rep v u]
  | .two _ s t, v, u => [s.rep v u, t.rep v u]
  | .loop _ x s t, v, u => [s.rep v u, if x = v then t else t.rep v u]
def gdL : Tm → Int → Tm → List Bool
  | .dig _, _, _ => []
  | .var _, _, _ => []
  | .pre _ s, v, u => [!s.binds v u]
  | .two _ s t, v, u => [!s.binds v u, !t.binds v u]
  | .loop _ x s t, v, u => [!s.binds v u, !((decide (x ≠ v) && t.free v) && (u.free x || t.binds v u))]
theorem repK_len (t : Tm) (v : Int) (u : Tm) : (repK t v u).length = t.kids.length := by cases t <;> rfl
theorem gdL_len (t : Tm) (v : Int) (u : Tm) : (gdL t v u).length = t.kids.length := by cases t <;> rfl
theorem gdL_all (t : Tm) (v : Int) (u : Tm) : (gdL t v u).all id = !t.binds v u := by
  cases t with
  | dig c => rfl
  | var c => rfl
  | pre c s => simp [gdL, Tm.binds]
  | two c s t => simp [gdL, Tm.binds]
  | loop c x s t => simp only [gdL, Tm.binds, List.all_cons, List.all_nil, id, Bool.and_true, Bool.not_or]
theorem all_step : ∀ {l : List Bool} {j : Nat} {x : Bool}, l[j]? = some x → (l.take (j + 1)).all id = ((l.take j).all id && x)
  | [], _, _, h => by simp at h
  | a :: l, 0, x, h => by simp at h; subst h; simp
  | a :: l, j + 1, x, h => by
    have := all_step (l := l) (j := j) (by simpa using h)
    simp only [List.take_succ_cons, List.all_cons, this, Bool.and_assoc]

/-- A part that stays as it is. -/
theorem rep_stay {w : World} {S : Nat → Prop} {t u : Tm} {a b v : Int} {sv : Value} {j : Nat} {x : Tm} (ho : t.Ok) (h : SN w S t (a, b, sv)) (hv : 0 < v) (hj : t.kids[j]? = some x) (hs : (j = 1 ∧ b = v) ∨ x.free v = false) :
    (repK t v u)[j]? = some x ∧ (gdL t v u)[j]? = some true := by
  cases t with
  | dig c => simp [Tm.kids] at hj
  | var c => simp [Tm.kids] at hj
  | pre c s =>
    match j, hj with
    | 0, hj =>
      simp [Tm.kids] at hj; subst hj
      have hf : s.free v = false := by rcases hs with ⟨h1, _⟩ | h1; omega; exact h1
      simp [repK, gdL, (s.rep_id v u hf).1, (s.rep_id v u hf).2]
    | j + 1, hj => simp [Tm.kids] at hj
  | two c s t =>
    obtain ⟨_, h2, _⟩ := h
    simp only at h2
    subst h2
    match j, hj with
    | 0, hj =>
      simp [Tm.kids] at hj; subst hj
      have hf : s.free v = false := by rcases hs with ⟨h1, _⟩ | h1; omega; exact h1
      simp [repK, gdL, (s.rep_id v u hf).1, (s.rep_id v u hf).2]
    | 1, hj =>
      simp [Tm.kids] at hj; subst hj
      have hf : t.free v = false := by rcases hs with ⟨_, h1⟩ | h1; omega; exact h1
      simp [repK, gdL, (t.rep_id v u hf).1, (t.rep_id v u hf).2]
    | j + 2, hj => simp [Tm.kids] at hj
  | loop c i s t =>
    obtain ⟨_, h2, _⟩ := h
    simp only at h2
    subst h2
    match j, hj with
    | 0, hj =>
      simp [Tm.kids] at hj; subst hj
      have hf : s.free v = false := by rcases hs with ⟨h1, _⟩ | h1; omega; exact h1
      simp [repK, gdL, (s.rep_id v u hf).1, (s.rep_id v u hf).2]
    | 1, hj =>
      simp [Tm.kids] at hj; subst hj
      rcases hs with ⟨_, h1⟩ | hf
      · simp [repK, gdL, h1]
      · simp [repK, gdL, hf, (t.rep_id v u hf).1]
    | j + 2, hj => simp [Tm.kids] at hj

/-- A part that is replaced. -/
theorem rep_turn {w : World} {S : Nat → Prop} {t u : Tm} {a b v : Int} {sv : Value} {j : Nat} {x : Tm} (ho : t.Ok) (h : SN w S t (a, b, sv)) (hj : t.kids[j]? = some x) (hs : ¬ (j = 1 ∧ b = v)) (hf : x.free v = true) :
    (repK t v u)[j]? = some (x.rep v u) ∧ (gdL t v u)[j]? = some (!x.binds v u && (decide (j = 0) || (decide (b = 0) || !u.free b))) := by
  cases t with
  | dig c => simp [Tm.kids] at hj
  | var c => simp [Tm.kids] at hj
  | pre c s =>
    match j, hj with
    | 0, hj => simp [Tm.kids] at hj; subst hj; simp [repK, gdL]
    | j + 1, hj => simp [Tm.kids] at hj
  | two c s t =>
    obtain ⟨_, h2, _⟩ := h
    simp only at h2
    subst h2
    match j, hj with
    | 0, hj => simp [Tm.kids] at hj; subst hj; simp [repK, gdL]
    | 1, hj => simp [Tm.kids] at hj; subst hj; simp [repK, gdL]
    | j + 2, hj => simp [Tm.kids] at hj
  | loop c i s t =>
    obtain ⟨_, h2, _⟩ := h
    simp only at h2
    subst h2
    have hl := isL_ge ho.2.1
    match j, hj with
    | 0, hj => simp [Tm.kids] at hj; subst hj; simp [repK, gdL]
    | 1, hj =>
      simp [Tm.kids] at hj; subst hj
      have hne : ¬ (b = v) := fun e => hs ⟨rfl, e⟩
      have hb0 : ¬ (b = 0) := by omega
      simp [repK, gdL, hne, hf, hb0, Bool.and_comm]
    | j + 2, hj => simp [Tm.kids] at hj

/-- The whole, made of its parts. -/
theorem sn_made {w0 w : World} {S S' : Nat → Prop} {t u : Tm} {a b v : Int} {sv sv' : Value} {ys : List (Int × Int × Value)} (h : SN w0 S t (a, b, sv)) (hn : ∀ c, t = .var c → c ≠ v)
    (ho : w.ownsRow 0 70 3 sv' ys.length (flat3 ys)) (hS : ∀ g, sv'.ownBlock = some g → S' g) (ha : All2 (SN w S') (repK t v u) ys) : SN w S' (t.rep v u) (a, b, sv') := by
  cases t with
  | dig c =>
    obtain ⟨h1, h2, _⟩ := h
    cases ys with
    | nil => exact ⟨h1, h2, ho, hS⟩
    | cons y ys => cases ha
  | var c =>
    obtain ⟨h1, h2, _⟩ := h
    cases ys with
    | nil =>
      simp only [Tm.rep, if_neg (hn c rfl)]
      exact ⟨h1, h2, ho, hS⟩
    | cons y ys => cases ha
  | pre c s =>
    obtain ⟨h1, h2, _⟩ := h
    match ys, ha, ho with
    | [y], ha, ho => exact ⟨h1, h2, y, ho, hS, ha.1⟩
  | two c s t =>
    obtain ⟨h1, h2, _⟩ := h
    match ys, ha, ho with
    | [y, z], ha, ho => exact ⟨h1, h2, y, z, ho, hS, ha.1, ha.2.1⟩
  | loop c i s t =>
    obtain ⟨h1, h2, _⟩ := h
    match ys, ha, ho with
    | [y, z], ha, ho => exact ⟨h1, h2, y, z, ho, hS, ha.1, ha.2.1⟩
end

section
open Go.RowKit

/-- Blocks of parts: the given ones or new ones, neither the box of what comes out nor its row. -/
def Apart (S : Nat → Prop) (h : Nat) (sv : Value) (x : Nat) : Prop := (S x ∨ h + 3 ≤ x) ∧ x ≠ h + 4 ∧ ∀ g, sv.ownBlock = some g → x ≠ g

structure RS (S : Nat → Prop) (h : Nat) (w wr : World) (na nb : Int) (nsv : Value) (ua ub : Int) (usv : Value) (sv : Value) (j : Nat) (ks : List Tm) (ys : List (Int × Int × Value)) : Prop where
  cn : C3 wr h (.int .u8 na) (.int .u8 nb) nsv TN
  cu : C3 wr (h + 1) (.int .u8 ua) (.int .u8 ub) usv TN
  cr : C3 wr (h + 2) (.int .u8 0) (.int .u8 0) (.slice none 0 0) TN
  co : C3 wr (h + 4) (.int .u8 na) (.int .u8 nb) sv TN
  row : wr.ownsRow (h + 3) TN 3 sv j (flat3 ys)
  len : ys.length = j
  ap : ∀ g, sv.ownBlock = some g → g ≠ h + 4
  ks : All2 (SN wr (Apart S h sv)) ks ys
  hz : w.heap.size = h
  gr : w.grownBy wr none

theorem all2_map {α β : Type} {R R' : α → β → Prop} (h : ∀ a b, R a b → R' a b) : ∀ {l : List α} {m : List β}, All2 R l m → All2 R' l m := fun ha => All2.mono h _ _ ha
theorem flat3_app : ∀ (l : List (Int × Int × Value)) (a b : Int) (sv : Value), flat3 (l ++ [(a, b, sv)]) = flat3 l ++ [.int .u8 a, .int .u8 b, sv]
  | [], _, _, _ => rfl
  | (m, n, s) :: l, a, b, sv => by simp [flat3, flat3_app l a b sv]

section
variable {S : Nat → Prop} {h j : Nat} {w wr : World} {na nb ua ub : Int} {nsv usv sv : Value} {ks : List Tm} {ys : List (Int × Int × Value)}
theorem RS.grown {w' : World} (r : RS S h w wr na nb nsv ua ub usv sv j ks ys) (hg : wr.grownBy w' none) : RS S h w w' na nb nsv ua ub usv sv j ks ys :=
  ⟨r.cn.grown hg (by simp), r.cu.grown hg (by simp), r.cr.grown hg (by simp), r.co.grown hg (by simp), own_keep r.row (fun b hb => hg.block b (r.row.lt b hb).2 (by simp)), r.len, r.ap,
    all2_map (fun t y hy => hy.grown hg) r.ks, r.hz, r.gr.trans hg⟩

theorem RS.apart_new (r : RS S h w wr na nb nsv ua ub usv sv j ks ys) (hS : ∀ x, S x → x < w.heap.size) {x : Nat} (hx : S x ∨ wr.heap.size ≤ x) : Apart S h sv x := by
  have hlt : h + 4 < wr.heap.size := r.co.lt
  have hz := r.hz
  rcases hx with hx | hx
  · have := hS x hx
    exact ⟨.inl hx, by omega, fun g hg e => by have := (r.row.lt g hg).1; omega⟩
  · exact ⟨.inr (by omega), by omega, fun g hg e => by have := (r.row.lt g hg).2; omega⟩

/-- The end: what comes out is laid into the result's box. -/
theorem RS.ended (r : RS S h w wr na nb nsv ua ub usv sv j ks ys) (hS : ∀ x, S x → x < w.heap.size) :
    (laid3 wr (h + 2) (.int .u8 na) (.int .u8 nb) sv).ownsRow 0 TN 3 sv ys.length (flat3 ys) ∧ (∀ g, sv.ownBlock = some g → S g ∨ w.heap.size ≤ g) ∧ All2 (SN (laid3 wr (h + 2) (.int .u8 na) (.int .u8 nb) sv) (fun x => S x ∨ w.heap.size ≤ x)) ks ys ∧ w.grownBy (laid3 wr (h + 2) (.int .u8 na) (.int .u8 nb) sv) none := by
  have hz := r.hz
  refine ⟨?_, fun g hg => .inr (by have := (r.row.lt g hg).1; omega), ?_, gr_none (gr_laid3 (g := h + 2) (gr_some2 r.gr) (by omega) _ _ _) (by omega)⟩
  · rw [r.len]
    exact own_base (own_keep r.row (fun g hg => laid3_heap _ _ _ _ _ _ (by have := (r.row.lt g hg).1; omega))) (Nat.zero_le _)
  · refine all2_map (fun t y hy => hy.keep (fun b hb hl => laid3_heap _ _ _ _ _ _ ?_) (fun b hb _ => ?_) t y) r.ks
    · rcases hb.1 with h1 | h1
      · have := hS b h1; omega
      · omega
    · rcases hb.1 with h1 | h1
      · exact .inl h1
      · exact .inr (by omega)

theorem RS.push {w2 : World} {sv2 : Value} {a3 b3 : Int} {sv3 : Value} {t3 : Tm} (r : RS S h w wr na nb nsv ua ub usv sv j ks ys)
    (ho : w2.ownsRow (h + 3) TN 3 sv2 (j + 1) (flat3 ys ++ [.int .u8 a3, .int .u8 b3, sv3])) (hg : wr.grownBy w2 sv.ownBlock) (hat : sv2.ownBlock = sv.ownBlock ∨ sv2.ownBlock = some wr.heap.size)
    (ht : SN wr (Apart S h sv) t3 (a3, b3, sv3)) :
    RS S h w (w2.setCell ⟨h + 4, 2, none⟩ sv2) na nb nsv ua ub usv sv2 (j + 1) (ks ++ [t3]) (ys ++ [(a3, b3, sv3)]) := by
  have hlt : h + 4 < wr.heap.size := r.co.lt
  have hge : ∀ g, sv.ownBlock = some g → h + 3 ≤ g := fun g hg => (r.row.lt g hg).1
  have hne : ∀ x, x < h + 3 → some x ≠ sv.ownBlock := fun x hx e => by have := hge x e.symm; omega
  have hne4 : some (h + 4) ≠ sv.ownBlock := fun e => r.ap _ e.symm rfl
  have hset := gr_set w2 (h + 4) 2 sv2
  have hap : ∀ g, sv2.ownBlock = some g → g ≠ h + 4 := fun g hg => by
    rcases hat with e | e
    · exact r.ap g (e ▸ hg)
    · rw [e] at hg; cases hg; omega
  have hsn : ∀ t y, SN wr (Apart S h sv) t y → SN (w2.setCell ⟨h + 4, 2, none⟩ sv2) (Apart S h sv2) t y := fun t y hy =>
    hy.keep (fun b hb hl => by
      have h1 := hg.block b hl (fun e => hb.2.2 b e.symm rfl)
      have h2 := hset.block b (Nat.lt_of_lt_of_le hl hg.size) (by simp; exact hb.2.1)
      exact h2.trans h1) (fun b hb hl => ⟨hb.1, hb.2.1, fun g hg2 => by
      rcases hat with e | e
      · exact hb.2.2 g (e ▸ hg2)
      · rw [e] at hg2; cases hg2; omega⟩) t y
  refine ⟨(r.cn.grown hg (hne h (by omega))).grown hset (by simp), (r.cu.grown hg (hne (h + 1) (by omega))).grown hset (by simp), (r.cr.grown hg (hne (h + 2) (by omega))).grown hset (by simp), (r.co.grown hg hne4).set2 sv2, ?_, by rw [List.length_append, r.len]; rfl, hap, ?_, r.hz, ?_⟩
  · rw [flat3_app]
    exact own_keep ho (fun b hb => hset.block b (ho.lt b hb).2 (by simp; exact hap b hb))
  · exact All2.snoc (hsn _ _ ht) _ _ (all2_map hsn r.ks)
  · have h1 : w.grownBy w2 none := ⟨hg.os.trans r.gr.os, hg.tape.trans r.gr.tape, hg.output.trans r.gr.output, Nat.le_trans r.gr.size hg.size, fun k hk hn => (hg.block k (Nat.lt_of_lt_of_le hk r.gr.size) (hne k (by have := r.hz; omega))).trans (r.gr.block k hk hn)⟩
    exact gr_new h1 hset (by have := r.hz; omega)
end
end

end Go.Proofs.Ytmofoeljajdhmaa
