/- A region of IsPermutation that draws its order: the map of an array and of where its indices stand. -/
import Derived.Test.YtpakihjkjdanlaaMapP
import Derived.Laws.StructEq
import Derived.OrdersHeld
import Derived.Deep.RegionHeld
namespace Go.Proofs.Ytpakihjkjdanlaa
open Go.RowKit

theorem op_make {o : Oper} {a : Act} {w : World} {K : Act → World → Prop} {Q : Exit → Act → World → Prop} (ho : o.op = .makeMap 62 none) (h : K (a.put o.dst (.map (some w.heap.size))) (w.alloc (.map #[] 0))) : Oper.wp Try.prog o a w K Q := by
  unfold Oper.wp
  have e : (execOp a.eval o).run Try.prog w = .ok (.value (.map (some w.heap.size))) (w.alloc (.map #[] 0)) := by
    simp only [execOp, ho]
    rfl
  rw [e, Oper.upon_value]
  exact h
theorem op_put {o : Oper} {a : Act} {w : World} {K : Act → World → Prop} {Q : Exit → Act → World → Prop} (m k v : Operand) (ho : o.op = .insert 62 m k v) (b : Nat) (Ks : List (List Int)) (x : List Int) (hm : a.eval m = .map (some b)) (hk : a.eval k = .agg (pvc x)) (hv : a.eval v = .agg (pvc (invL x)))
    (hM : MpAt w b Ks) (hx : Ok400 x) (h : ∀ w', MpAt w' b (x :: Ks) → w.grownBy w' (some b) → K (a.put o.dst undef) w') : Oper.wp Try.prog o a w K Q := by
  obtain ⟨w', hr, h1, h2⟩ := put_run hM hx
  unfold Oper.wp
  have e : (execOp a.eval o).run Try.prog w = .ok .skip w' := by
    simp only [execOp, ho, hm, hk, hv]
    simp [hr, Result.andThen]
  rw [e, Oper.upon_skip]
  exact h w' h1 h2
theorem op_inv {o : Oper} {a : Act} {w : World} {K : Act → World → Prop} {Q : Exit → Act → World → Prop} (y : Operand) (ho : o.op = .call { callee := .value (.func 60), args := #[y], argTypes := #[59] }) (P : List Int) (hP : Ok400 P) (hy : a.eval y = .agg (pvc P))
    (h : ∀ w', w.grownBy w' none → K (a.put o.dst (.agg (pvc (invL P)))) w') : Oper.wp Try.prog o a w K Q := by
  unfold Oper.wp
  have e : (execOp a.eval o).run Try.prog w = .ok (.enter 60 #[.agg (pvc P)]) w := by
    have he : ∀ args u, (callFunc 60 args).run Try.prog u = .ok (.enter 60 args) u := enters_of Try.func60 (by kernel_rfl) rfl
    have hf : a.eval (.func 60) = .func (.func 60) #[] #[] := rfl
    simp [execOp, ho, resolve, invoke, hf, hy, Deferred.ofValue, he]
  rw [e, Oper.upon_enter]
  refine (inverse_any P hP w).mono ?_
  rintro e w' ⟨rfl, hg⟩
  exact h w' hg


/-- The region, as the translation has it. -/
def opsI : Array Oper := #[{ dst := some 15, op := Op.makeMap 62 none, type := 62, pos := "l4_moving.go:105", after := #[], guard := none }, { dst := some 16, op := Op.load 59 (Operand.tmp 3), type := 59, pos := "l4_moving.go:105", after := #[], guard := none }, { dst := some 17, op := Op.load 59 (Operand.tmp 4), type := 59, pos := "l4_moving.go:105", after := #[], guard := none }, { dst := none, op := Op.insert 62 (Operand.tmp 15) (Operand.tmp 16) (Operand.tmp 17), type := 0, pos := "l4_moving.go:105", after := #[{ on := 0, ground := Ground.data }, { on := 1, ground := Ground.data }, { on := 2, ground := Ground.data }], guard := none }, { dst := some 18, op := Op.load 59 (Operand.tmp 4), type := 59, pos := "l4_moving.go:105", after := #[], guard := none }, { dst := some 19, op := Op.load 59 (Operand.tmp 4), type := 59, pos := "l4_moving.go:105", after := #[], guard := none }, { dst := some 20, op := Op.call { callee := Callee.value (Operand.func 60), args := #[Operand.tmp 19], argTypes := #[59] }, type := 59, pos := "l4_moving.go:105", after := #[{ on := 5, ground := Ground.data }], guard := none }, { dst := none, op := Op.insert 62 (Operand.tmp 15) (Operand.tmp 18) (Operand.tmp 20), type := 0, pos := "l4_moving.go:105", after := #[{ on := 0, ground := Ground.data }, { on := 4, ground := Ground.data }, { on := 6, ground := Ground.data }], guard := none }, { dst := some 21, op := Op.move (Operand.tmp 15), type := 62, pos := "l4_moving.go:105", after := #[{ on := 0, ground := Ground.data }, { on := 1, ground := Ground.data }, { on := 2, ground := Ground.data }, { on := 3, ground := Ground.data }, { on := 4, ground := Ground.data }, { on := 5, ground := Ground.data }, { on := 6, ground := Ground.data }, { on := 7, ground := Ground.data }], guard := none }, { dst := some 5, op := Op.assign (Operand.tmp 21), type := 62, pos := "l4_moving.go:105", after := #[{ on := 8, ground := Ground.data }, { on := 6, ground := Ground.chain }, { on := 0, ground := Ground.phase }, { on := 1, ground := Ground.phase }, { on := 2, ground := Ground.phase }, { on := 3, ground := Ground.phase }, { on := 4, ground := Ground.phase }, { on := 5, ground := Ground.phase }, { on := 6, ground := Ground.phase }, { on := 7, ground := Ground.phase }, { on := 8, ground := Ground.phase }], guard := none }]
def SI (w : World) (g q : Nat) (P Q : List Int) (w' : World) : Prop := ArrAt w' g P ∧ ArrAt w' q Q ∧ w.grownBy w' none

set_option maxRecDepth 100000 in
set_option maxHeartbeats 2000000 in
theorem rg_E {x0 x1 x2 x5 x6 x7 x8 x9 x10 x11 x12 x13 x14 x21 x22 x23 x24 x25 x26 x27 x28 : Value} {Qc : Exit → Act → World → Prop} (hpan : ∀ (c : List PanicEntry) (a : Act) (d : Option Tmp) (v : Value) (w : World), Qc (.panic c) (a.put d v) w → Qc (.panic c) a w) (w : World) (g q : Nat) (P Q : List Int) (_hP : Ok400 P) (_hQ : Ok400 Q) (_hQE : invL P = Q) (hK : ∀ (W : World) (b : Nat) (Ks : List (List Int)), MpAt W b Ks → P ∈ Ks → Q ∈ Ks → ArrAt W g P → w.grownBy W none → Qc .normal { tmps := #[x0, x1, x2, .pointer (some ⟨g, 0, none⟩), .pointer (some ⟨q, 0, none⟩), .map (some b), x6, x7, x8, x9, x10, x11, x12, x13, x14, .map (some b), .agg (pvc P), .agg (pvc Q), .agg (pvc Q), .agg (pvc Q), .agg (pvc (invL Q)), .map (some b), x22, x23, x24, x25, x26, x27, x28], defers := [] } W)
    (b : Nat) (Ks : List (List Int)) (hp : P ∈ Ks) (hq : Q ∈ Ks) (W : World) (hM : MpAt W b Ks) (hS : SI w g q P Q W) :
    wpAnyH Try.prog .any opsI Qc (SI w g q P Q) 2 #[true, true, true, true, true, true, true, true, false, false] { tmps := #[x0, x1, x2, .pointer (some ⟨g, 0, none⟩), .pointer (some ⟨q, 0, none⟩), x5, x6, x7, x8, x9, x10, x11, x12, x13, x14, .map (some b), .agg (pvc P), .agg (pvc Q), .agg (pvc Q), .agg (pvc Q), .agg (pvc (invL Q)), x21, x22, x23, x24, x25, x26, x27, x28], defers := [] } W := by
  refine wpAnyH_take (i := 8) (v := .map (some b)) rfl (by kernel_rfl) (by kernel_rfl) (by kernel_rfl) (fun _ _ _ h => hpan _ _ _ _ _ h) (.inl ⟨by rfl, fun _ _ => rfl⟩) hS ?_
  refine wpAnyH_take (i := 9) (v := .map (some b)) rfl (by kernel_rfl) (by kernel_rfl) (by kernel_rfl) (fun _ _ _ h => hpan _ _ _ _ _ h) (.inl ⟨by rfl, fun _ _ => rfl⟩) hS ?_
  exact wpAnyH_done (by kernel_rfl) (hK W b Ks hM hp hq hS.1 hS.2.2) _

set_option maxRecDepth 100000 in
set_option maxHeartbeats 2000000 in
theorem rg_3 {x0 x1 x2 x5 x6 x7 x8 x9 x10 x11 x12 x13 x14 x21 x22 x23 x24 x25 x26 x27 x28 : Value} {Qc : Exit → Act → World → Prop} (hpan : ∀ (c : List PanicEntry) (a : Act) (d : Option Tmp) (v : Value) (w : World), Qc (.panic c) (a.put d v) w → Qc (.panic c) a w) (w : World) (g q : Nat) (P Q : List Int) (hP : Ok400 P) (hQ : Ok400 Q) (hQE : invL P = Q) (hK : ∀ (W : World) (b : Nat) (Ks : List (List Int)), MpAt W b Ks → P ∈ Ks → Q ∈ Ks → ArrAt W g P → w.grownBy W none → Qc .normal { tmps := #[x0, x1, x2, .pointer (some ⟨g, 0, none⟩), .pointer (some ⟨q, 0, none⟩), .map (some b), x6, x7, x8, x9, x10, x11, x12, x13, x14, .map (some b), .agg (pvc P), .agg (pvc Q), .agg (pvc Q), .agg (pvc Q), .agg (pvc (invL Q)), .map (some b), x22, x23, x24, x25, x26, x27, x28], defers := [] } W)
    (b : Nat) (Ks : List (List Int)) (hq : Q ∈ Ks) (hb : g < b ∧ q < b ∧ w.heap.size ≤ b) (W : World) (hM : MpAt W b Ks) (hS : SI w g q P Q W) :
    wpAnyH Try.prog .any opsI Qc (SI w g q P Q) 3 #[true, true, true, false, true, true, true, true, false, false] { tmps := #[x0, x1, x2, .pointer (some ⟨g, 0, none⟩), .pointer (some ⟨q, 0, none⟩), x5, x6, x7, x8, x9, x10, x11, x12, x13, x14, .map (some b), .agg (pvc P), .agg (pvc Q), .agg (pvc Q), .agg (pvc Q), .agg (pvc (invL Q)), x21, x22, x23, x24, x25, x26, x27, x28], defers := [] } W := by
  refine wpAnyH_ready (rs := [3]) (by kernel_rfl) (by simp) ?_
  refine AllReadyH.cons rfl (fun K hK' => ?_) ?_
  · rw [if_pos (by rfl)]
    refine op_put (.tmp 15) (.tmp 16) (.tmp 17) rfl b Ks P rfl rfl (by rw [hQE]; rfl) hM hP (fun v hM' hg => ?_)
    exact hK'.out _ _ ⟨hS.1.grown hg (by have := hb.1; simp; omega), hS.2.1.grown hg (by have := hb.2.1; simp; omega), gr_own hS.2.2 hg (fun k e => by have := hb.2.2; cases e; omega)⟩ (fun hH => rg_E hpan w g q P Q hP hQ hQE hK  b (P :: Ks) (by simp) (by simp [hq]) v hM' hH)
  exact AllReadyH.nil

set_option maxRecDepth 100000 in
set_option maxHeartbeats 2000000 in
theorem rg_7 {x0 x1 x2 x5 x6 x7 x8 x9 x10 x11 x12 x13 x14 x21 x22 x23 x24 x25 x26 x27 x28 : Value} {Qc : Exit → Act → World → Prop} (hpan : ∀ (c : List PanicEntry) (a : Act) (d : Option Tmp) (v : Value) (w : World), Qc (.panic c) (a.put d v) w → Qc (.panic c) a w) (w : World) (g q : Nat) (P Q : List Int) (hP : Ok400 P) (hQ : Ok400 Q) (hQE : invL P = Q) (hK : ∀ (W : World) (b : Nat) (Ks : List (List Int)), MpAt W b Ks → P ∈ Ks → Q ∈ Ks → ArrAt W g P → w.grownBy W none → Qc .normal { tmps := #[x0, x1, x2, .pointer (some ⟨g, 0, none⟩), .pointer (some ⟨q, 0, none⟩), .map (some b), x6, x7, x8, x9, x10, x11, x12, x13, x14, .map (some b), .agg (pvc P), .agg (pvc Q), .agg (pvc Q), .agg (pvc Q), .agg (pvc (invL Q)), .map (some b), x22, x23, x24, x25, x26, x27, x28], defers := [] } W)
    (b : Nat) (Ks : List (List Int)) (hp : P ∈ Ks) (hb : g < b ∧ q < b ∧ w.heap.size ≤ b) (W : World) (hM : MpAt W b Ks) (hS : SI w g q P Q W) :
    wpAnyH Try.prog .any opsI Qc (SI w g q P Q) 3 #[true, true, true, true, true, true, true, false, false, false] { tmps := #[x0, x1, x2, .pointer (some ⟨g, 0, none⟩), .pointer (some ⟨q, 0, none⟩), x5, x6, x7, x8, x9, x10, x11, x12, x13, x14, .map (some b), .agg (pvc P), .agg (pvc Q), .agg (pvc Q), .agg (pvc Q), .agg (pvc (invL Q)), x21, x22, x23, x24, x25, x26, x27, x28], defers := [] } W := by
  refine wpAnyH_ready (rs := [7]) (by kernel_rfl) (by simp) ?_
  refine AllReadyH.cons rfl (fun K hK' => ?_) ?_
  · rw [if_pos (by rfl)]
    refine op_put (.tmp 15) (.tmp 18) (.tmp 20) rfl b Ks Q rfl rfl rfl hM hQ (fun v hM' hg => ?_)
    exact hK'.out _ _ ⟨hS.1.grown hg (by have := hb.1; simp; omega), hS.2.1.grown hg (by have := hb.2.1; simp; omega), gr_own hS.2.2 hg (fun k e => by have := hb.2.2; cases e; omega)⟩ (fun hH => rg_E hpan w g q P Q hP hQ hQE hK  b (Q :: Ks) (by simp [hp]) (by simp) v hM' hH)
  exact AllReadyH.nil

set_option maxRecDepth 100000 in
set_option maxHeartbeats 2000000 in
theorem rg_37 {x0 x1 x2 x5 x6 x7 x8 x9 x10 x11 x12 x13 x14 x21 x22 x23 x24 x25 x26 x27 x28 : Value} {Qc : Exit → Act → World → Prop} (hpan : ∀ (c : List PanicEntry) (a : Act) (d : Option Tmp) (v : Value) (w : World), Qc (.panic c) (a.put d v) w → Qc (.panic c) a w) (w : World) (g q : Nat) (P Q : List Int) (hP : Ok400 P) (hQ : Ok400 Q) (hQE : invL P = Q) (hK : ∀ (W : World) (b : Nat) (Ks : List (List Int)), MpAt W b Ks → P ∈ Ks → Q ∈ Ks → ArrAt W g P → w.grownBy W none → Qc .normal { tmps := #[x0, x1, x2, .pointer (some ⟨g, 0, none⟩), .pointer (some ⟨q, 0, none⟩), .map (some b), x6, x7, x8, x9, x10, x11, x12, x13, x14, .map (some b), .agg (pvc P), .agg (pvc Q), .agg (pvc Q), .agg (pvc Q), .agg (pvc (invL Q)), .map (some b), x22, x23, x24, x25, x26, x27, x28], defers := [] } W)
    (b : Nat) (Ks : List (List Int)) (hb : g < b ∧ q < b ∧ w.heap.size ≤ b) (W : World) (hM : MpAt W b Ks) (hS : SI w g q P Q W) :
    wpAnyH Try.prog .any opsI Qc (SI w g q P Q) 4 #[true, true, true, false, true, true, true, false, false, false] { tmps := #[x0, x1, x2, .pointer (some ⟨g, 0, none⟩), .pointer (some ⟨q, 0, none⟩), x5, x6, x7, x8, x9, x10, x11, x12, x13, x14, .map (some b), .agg (pvc P), .agg (pvc Q), .agg (pvc Q), .agg (pvc Q), .agg (pvc (invL Q)), x21, x22, x23, x24, x25, x26, x27, x28], defers := [] } W := by
  refine wpAnyH_ready (rs := [3, 7]) (by kernel_rfl) (by simp) ?_
  refine AllReadyH.cons rfl (fun K hK' => ?_) ?_
  · rw [if_pos (by rfl)]
    refine op_put (.tmp 15) (.tmp 16) (.tmp 17) rfl b Ks P rfl rfl (by rw [hQE]; rfl) hM hP (fun v hM' hg => ?_)
    exact hK'.out _ _ ⟨hS.1.grown hg (by have := hb.1; simp; omega), hS.2.1.grown hg (by have := hb.2.1; simp; omega), gr_own hS.2.2 hg (fun k e => by have := hb.2.2; cases e; omega)⟩ (fun hH => rg_7 hpan w g q P Q hP hQ hQE hK  b (P :: Ks) (by simp) hb v hM' hH)
  refine AllReadyH.cons rfl (fun K hK' => ?_) ?_
  · rw [if_pos (by rfl)]
    refine op_put (.tmp 15) (.tmp 18) (.tmp 20) rfl b Ks Q rfl rfl rfl hM hQ (fun v hM' hg => ?_)
    exact hK'.out _ _ ⟨hS.1.grown hg (by have := hb.1; simp; omega), hS.2.1.grown hg (by have := hb.2.1; simp; omega), gr_own hS.2.2 hg (fun k e => by have := hb.2.2; cases e; omega)⟩ (fun hH => rg_3 hpan w g q P Q hP hQ hQE hK  b (Q :: Ks) (by simp) hb v hM' hH)
  exact AllReadyH.nil

set_option maxRecDepth 100000 in
set_option maxHeartbeats 2000000 in
theorem rg_6 {x0 x1 x2 x5 x6 x7 x8 x9 x10 x11 x12 x13 x14 x20 x21 x22 x23 x24 x25 x26 x27 x28 : Value} {Qc : Exit → Act → World → Prop} (hpan : ∀ (c : List PanicEntry) (a : Act) (d : Option Tmp) (v : Value) (w : World), Qc (.panic c) (a.put d v) w → Qc (.panic c) a w) (w : World) (g q : Nat) (P Q : List Int) (hP : Ok400 P) (hQ : Ok400 Q) (hQE : invL P = Q) (hK : ∀ (W : World) (b : Nat) (Ks : List (List Int)), MpAt W b Ks → P ∈ Ks → Q ∈ Ks → ArrAt W g P → w.grownBy W none → Qc .normal { tmps := #[x0, x1, x2, .pointer (some ⟨g, 0, none⟩), .pointer (some ⟨q, 0, none⟩), .map (some b), x6, x7, x8, x9, x10, x11, x12, x13, x14, .map (some b), .agg (pvc P), .agg (pvc Q), .agg (pvc Q), .agg (pvc Q), .agg (pvc (invL Q)), .map (some b), x22, x23, x24, x25, x26, x27, x28], defers := [] } W)
    (b : Nat) (Ks : List (List Int)) (hp : P ∈ Ks) (hb : g < b ∧ q < b ∧ w.heap.size ≤ b) (W : World) (hM : MpAt W b Ks) (hS : SI w g q P Q W) :
    wpAnyH Try.prog .any opsI Qc (SI w g q P Q) 4 #[true, true, true, true, true, true, false, false, false, false] { tmps := #[x0, x1, x2, .pointer (some ⟨g, 0, none⟩), .pointer (some ⟨q, 0, none⟩), x5, x6, x7, x8, x9, x10, x11, x12, x13, x14, .map (some b), .agg (pvc P), .agg (pvc Q), .agg (pvc Q), .agg (pvc Q), x20, x21, x22, x23, x24, x25, x26, x27, x28], defers := [] } W := by
  refine wpAnyH_ready (rs := [6]) (by kernel_rfl) (by simp) ?_
  refine AllReadyH.cons rfl (fun K hK' => ?_) ?_
  · rw [if_pos (by rfl)]
    refine op_inv (.tmp 19) rfl Q hQ rfl (fun v hg => ?_)
    exact hK'.out _ _ ⟨hS.1.grown hg (by simp), hS.2.1.grown hg (by simp), hS.2.2.trans hg⟩ (fun hH => rg_7 hpan w g q P Q hP hQ hQE hK  b Ks hp hb v (hM.grown hg (by simp)) hH)
  exact AllReadyH.nil

set_option maxRecDepth 100000 in
set_option maxHeartbeats 2000000 in
theorem rg_36 {x0 x1 x2 x5 x6 x7 x8 x9 x10 x11 x12 x13 x14 x20 x21 x22 x23 x24 x25 x26 x27 x28 : Value} {Qc : Exit → Act → World → Prop} (hpan : ∀ (c : List PanicEntry) (a : Act) (d : Option Tmp) (v : Value) (w : World), Qc (.panic c) (a.put d v) w → Qc (.panic c) a w) (w : World) (g q : Nat) (P Q : List Int) (hP : Ok400 P) (hQ : Ok400 Q) (hQE : invL P = Q) (hK : ∀ (W : World) (b : Nat) (Ks : List (List Int)), MpAt W b Ks → P ∈ Ks → Q ∈ Ks → ArrAt W g P → w.grownBy W none → Qc .normal { tmps := #[x0, x1, x2, .pointer (some ⟨g, 0, none⟩), .pointer (some ⟨q, 0, none⟩), .map (some b), x6, x7, x8, x9, x10, x11, x12, x13, x14, .map (some b), .agg (pvc P), .agg (pvc Q), .agg (pvc Q), .agg (pvc Q), .agg (pvc (invL Q)), .map (some b), x22, x23, x24, x25, x26, x27, x28], defers := [] } W)
    (b : Nat) (Ks : List (List Int)) (hb : g < b ∧ q < b ∧ w.heap.size ≤ b) (W : World) (hM : MpAt W b Ks) (hS : SI w g q P Q W) :
    wpAnyH Try.prog .any opsI Qc (SI w g q P Q) 5 #[true, true, true, false, true, true, false, false, false, false] { tmps := #[x0, x1, x2, .pointer (some ⟨g, 0, none⟩), .pointer (some ⟨q, 0, none⟩), x5, x6, x7, x8, x9, x10, x11, x12, x13, x14, .map (some b), .agg (pvc P), .agg (pvc Q), .agg (pvc Q), .agg (pvc Q), x20, x21, x22, x23, x24, x25, x26, x27, x28], defers := [] } W := by
  refine wpAnyH_ready (rs := [3, 6]) (by kernel_rfl) (by simp) ?_
  refine AllReadyH.cons rfl (fun K hK' => ?_) ?_
  · rw [if_pos (by rfl)]
    refine op_put (.tmp 15) (.tmp 16) (.tmp 17) rfl b Ks P rfl rfl (by rw [hQE]; rfl) hM hP (fun v hM' hg => ?_)
    exact hK'.out _ _ ⟨hS.1.grown hg (by have := hb.1; simp; omega), hS.2.1.grown hg (by have := hb.2.1; simp; omega), gr_own hS.2.2 hg (fun k e => by have := hb.2.2; cases e; omega)⟩ (fun hH => rg_6 hpan w g q P Q hP hQ hQE hK  b (P :: Ks) (by simp) hb v hM' hH)
  refine AllReadyH.cons rfl (fun K hK' => ?_) ?_
  · rw [if_pos (by rfl)]
    refine op_inv (.tmp 19) rfl Q hQ rfl (fun v hg => ?_)
    exact hK'.out _ _ ⟨hS.1.grown hg (by simp), hS.2.1.grown hg (by simp), hS.2.2.trans hg⟩ (fun hH => rg_37 hpan w g q P Q hP hQ hQE hK  b Ks hb v (hM.grown hg (by simp)) hH)
  exact AllReadyH.nil

set_option maxRecDepth 100000 in
set_option maxHeartbeats 2000000 in
theorem rg_0 {x0 x1 x2 x5 x6 x7 x8 x9 x10 x11 x12 x13 x14 x15 x21 x22 x23 x24 x25 x26 x27 x28 : Value} {Qc : Exit → Act → World → Prop} (hpan : ∀ (c : List PanicEntry) (a : Act) (d : Option Tmp) (v : Value) (w : World), Qc (.panic c) (a.put d v) w → Qc (.panic c) a w) (w : World) (g q : Nat) (P Q : List Int) (hP : Ok400 P) (hQ : Ok400 Q) (hQE : invL P = Q) (hK : ∀ (W : World) (b : Nat) (Ks : List (List Int)), MpAt W b Ks → P ∈ Ks → Q ∈ Ks → ArrAt W g P → w.grownBy W none → Qc .normal { tmps := #[x0, x1, x2, .pointer (some ⟨g, 0, none⟩), .pointer (some ⟨q, 0, none⟩), .map (some b), x6, x7, x8, x9, x10, x11, x12, x13, x14, .map (some b), .agg (pvc P), .agg (pvc Q), .agg (pvc Q), .agg (pvc Q), .agg (pvc (invL Q)), .map (some b), x22, x23, x24, x25, x26, x27, x28], defers := [] } W)
     (W : World) (hS : SI w g q P Q W) :
    wpAnyH Try.prog .any opsI Qc (SI w g q P Q) 5 #[false, true, true, false, true, true, true, false, false, false] { tmps := #[x0, x1, x2, .pointer (some ⟨g, 0, none⟩), .pointer (some ⟨q, 0, none⟩), x5, x6, x7, x8, x9, x10, x11, x12, x13, x14, x15, .agg (pvc P), .agg (pvc Q), .agg (pvc Q), .agg (pvc Q), .agg (pvc (invL Q)), x21, x22, x23, x24, x25, x26, x27, x28], defers := [] } W := by
  refine wpAnyH_ready (rs := [0]) (by kernel_rfl) (by simp) ?_
  refine AllReadyH.cons rfl (fun K hK' => ?_) ?_
  · rw [if_pos (by rfl)]
    refine op_make rfl ?_
    exact hK'.out _ _ ⟨hS.1.grown (World.grownBy_alloc _ _ none) (by simp), hS.2.1.grown (World.grownBy_alloc _ _ none) (by simp), hS.2.2.trans (World.grownBy_alloc _ _ none)⟩ (fun hH => rg_37 hpan w g q P Q hP hQ hQE hK  W.heap.size [] ⟨hS.1.lt, hS.2.1.lt, hS.2.2.size⟩ _ (MpAt.new W) hH)
  exact AllReadyH.nil

set_option maxRecDepth 100000 in
set_option maxHeartbeats 2000000 in
theorem rg_S {x0 x1 x2 x5 x6 x7 x8 x9 x10 x11 x12 x13 x14 x15 x20 x21 x22 x23 x24 x25 x26 x27 x28 : Value} {Qc : Exit → Act → World → Prop} (hpan : ∀ (c : List PanicEntry) (a : Act) (d : Option Tmp) (v : Value) (w : World), Qc (.panic c) (a.put d v) w → Qc (.panic c) a w) (w : World) (g q : Nat) (P Q : List Int) (hP : Ok400 P) (hQ : Ok400 Q) (hQE : invL P = Q) (hK : ∀ (W : World) (b : Nat) (Ks : List (List Int)), MpAt W b Ks → P ∈ Ks → Q ∈ Ks → ArrAt W g P → w.grownBy W none → Qc .normal { tmps := #[x0, x1, x2, .pointer (some ⟨g, 0, none⟩), .pointer (some ⟨q, 0, none⟩), .map (some b), x6, x7, x8, x9, x10, x11, x12, x13, x14, .map (some b), .agg (pvc P), .agg (pvc Q), .agg (pvc Q), .agg (pvc Q), .agg (pvc (invL Q)), .map (some b), x22, x23, x24, x25, x26, x27, x28], defers := [] } W)
     (W : World) (hS : SI w g q P Q W) :
    wpAnyH Try.prog .any opsI Qc (SI w g q P Q) 6 #[false, true, true, false, true, true, false, false, false, false] { tmps := #[x0, x1, x2, .pointer (some ⟨g, 0, none⟩), .pointer (some ⟨q, 0, none⟩), x5, x6, x7, x8, x9, x10, x11, x12, x13, x14, x15, .agg (pvc P), .agg (pvc Q), .agg (pvc Q), .agg (pvc Q), x20, x21, x22, x23, x24, x25, x26, x27, x28], defers := [] } W := by
  refine wpAnyH_ready (rs := [0, 6]) (by kernel_rfl) (by simp) ?_
  refine AllReadyH.cons rfl (fun K hK' => ?_) ?_
  · rw [if_pos (by rfl)]
    refine op_make rfl ?_
    exact hK'.out _ _ ⟨hS.1.grown (World.grownBy_alloc _ _ none) (by simp), hS.2.1.grown (World.grownBy_alloc _ _ none) (by simp), hS.2.2.trans (World.grownBy_alloc _ _ none)⟩ (fun hH => rg_36 hpan w g q P Q hP hQ hQE hK  W.heap.size [] ⟨hS.1.lt, hS.2.1.lt, hS.2.2.size⟩ _ (MpAt.new W) hH)
  refine AllReadyH.cons rfl (fun K hK' => ?_) ?_
  · rw [if_pos (by rfl)]
    refine op_inv (.tmp 19) rfl Q hQ rfl (fun v hg => ?_)
    exact hK'.out _ _ ⟨hS.1.grown hg (by simp), hS.2.1.grown hg (by simp), hS.2.2.trans hg⟩ (fun hH => rg_0 hpan w g q P Q hP hQ hQE hK  v hH)
  exact AllReadyH.nil

set_option maxRecDepth 100000 in
set_option maxHeartbeats 2000000 in
theorem rg_all {x0 x1 x2 x5 x6 x7 x8 x9 x10 x11 x12 x13 x14 x15 x16 x17 x18 x19 x20 x21 x22 x23 x24 x25 x26 x27 x28 : Value} {Qc : Exit → Act → World → Prop} (hpan : ∀ (c : List PanicEntry) (a : Act) (d : Option Tmp) (v : Value) (w : World), Qc (.panic c) (a.put d v) w → Qc (.panic c) a w) (w : World) (g q : Nat) (P Q : List Int) (hP : Ok400 P) (hQ : Ok400 Q) (hQE : invL P = Q) (hK : ∀ (W : World) (b : Nat) (Ks : List (List Int)), MpAt W b Ks → P ∈ Ks → Q ∈ Ks → ArrAt W g P → w.grownBy W none → Qc .normal { tmps := #[x0, x1, x2, .pointer (some ⟨g, 0, none⟩), .pointer (some ⟨q, 0, none⟩), .map (some b), x6, x7, x8, x9, x10, x11, x12, x13, x14, .map (some b), .agg (pvc P), .agg (pvc Q), .agg (pvc Q), .agg (pvc Q), .agg (pvc (invL Q)), .map (some b), x22, x23, x24, x25, x26, x27, x28], defers := [] } W) (W : World) (h1 : ArrAt W g P) (h2 : ArrAt W q Q) (h3 : w.grownBy W none) :
    (Code.region 5 opsI true).wp Try.prog Qc { tmps := #[x0, x1, x2, .pointer (some ⟨g, 0, none⟩), .pointer (some ⟨q, 0, none⟩), x5, x6, x7, x8, x9, x10, x11, x12, x13, x14, x15, x16, x17, x18, x19, x20, x21, x22, x23, x24, x25, x26, x27, x28], defers := [] } W := by
  refine wp_region_held_drew (S := SI w g q P Q) (by kernel_rfl) ⟨h1, h2, h3.trans (gr_drewN W 1 none)⟩ (fun hS => ?_)
  refine wpAnyH_take (i := 1) (v := .agg (pvc P)) rfl (by kernel_rfl) (by kernel_rfl) (by kernel_rfl) (fun _ _ _ h => hpan _ _ _ _ _ h) (.inl ⟨by rfl, fun u hu => exec_load (x := .tmp 3) rfl rfl hu.1⟩) hS ?_
  refine wpAnyH_take (i := 2) (v := .agg (pvc Q)) rfl (by kernel_rfl) (by kernel_rfl) (by kernel_rfl) (fun _ _ _ h => hpan _ _ _ _ _ h) (.inl ⟨by rfl, fun u hu => exec_load (x := .tmp 4) rfl rfl hu.2.1⟩) hS ?_
  refine wpAnyH_take (i := 4) (v := .agg (pvc Q)) rfl (by kernel_rfl) (by kernel_rfl) (by kernel_rfl) (fun _ _ _ h => hpan _ _ _ _ _ h) (.inl ⟨by rfl, fun u hu => exec_load (x := .tmp 4) rfl rfl hu.2.1⟩) hS ?_
  refine wpAnyH_take (i := 5) (v := .agg (pvc Q)) rfl (by kernel_rfl) (by kernel_rfl) (by kernel_rfl) (fun _ _ _ h => hpan _ _ _ _ _ h) (.inl ⟨by rfl, fun u hu => exec_load (x := .tmp 4) rfl rfl hu.2.1⟩) hS ?_
  exact rg_S hpan w g q P Q hP hQ hQE hK  _ hS

/-! ### The look-ups -/
theorem exec_get {o : Oper} {ev : Operand → Value} {w : World} (m k : Operand) (ho : o.op = .lookup 62 m k false) (b : Nat) (Ks : List (List Int)) (x : List Int) (hm : ev m = .map (some b)) (hk : ev k = .agg (pvc x)) (hM : MpAt w b Ks) (hx : Ok400 x) (hmem : x ∈ Ks) (y : List Int) (hy : invL x = y) :
    (execOp ev o).run Try.prog w = .ok (.value (.agg (pvc y))) w := by
  subst hy
  simp only [execOp, ho, hm, hk]
  simp [get_run hM hx hmem, Result.andThen]
theorem exec_same {o : Oper} {ev : Operand → Value} {w : World} (x y : Operand) (u : TypeId) (ho : o.op = .binOp .eql 59 x y u) (p q : List Int) (hx : ev x = .agg (pvc p)) (hy : ev y = .agg (pvc q)) (hp : Ok400 p) (hq : Ok400 q) (r : Bool) (hr : decide (p = q) = r) :
    (execOp ev o).run Try.prog w = .ok (.value (.bool r)) w := by
  subst hr
  have hg := run_eqGuard_agg (P := Try.prog) (w := w) .eql 59 x y (pvc p) (pvc q) (by kernel_rfl)
  simp only [execOp, ho, hx, hy]
  simp [hg, binOp, same_run hp hq w, Result.andThen]
def opsJ : Array Oper := #[{ dst := some 22, op := Op.move (Operand.tmp 5), type := 62, pos := "l4_moving.go:107", after := #[], guard := none }, { dst := some 23, op := Op.move (Operand.tmp 5), type := 62, pos := "l4_moving.go:107", after := #[], guard := none }, { dst := some 24, op := Op.load 59 (Operand.tmp 3), type := 59, pos := "l4_moving.go:107", after := #[], guard := none }, { dst := some 25, op := Op.lookup 62 (Operand.tmp 23) (Operand.tmp 24) false, type := 59, pos := "l4_moving.go:107", after := #[{ on := 1, ground := Ground.data }, { on := 2, ground := Ground.data }], guard := none }, { dst := some 26, op := Op.lookup 62 (Operand.tmp 22) (Operand.tmp 25) false, type := 59, pos := "l4_moving.go:107", after := #[{ on := 0, ground := Ground.data }, { on := 3, ground := Ground.data }], guard := none }, { dst := some 27, op := Op.load 59 (Operand.tmp 3), type := 59, pos := "l4_moving.go:107", after := #[], guard := none }, { dst := some 28, op := Op.binOp BinOp.eql 59 (Operand.tmp 26) (Operand.tmp 27) 59, type := 4, pos := "l4_moving.go:107", after := #[{ on := 4, ground := Ground.data }, { on := 5, ground := Ground.data }], guard := none }, { dst := some 2, op := Op.assign (Operand.tmp 28), type := 4, pos := "l4_moving.go:107", after := #[{ on := 6, ground := Ground.data }, { on := 0, ground := Ground.phase }, { on := 1, ground := Ground.phase }, { on := 2, ground := Ground.phase }, { on := 3, ground := Ground.phase }, { on := 4, ground := Ground.phase }, { on := 5, ground := Ground.phase }, { on := 6, ground := Ground.phase }], guard := none }]
def SJ (w : World) (g b : Nat) (P : List Int) (Ks : List (List Int)) (w' : World) : Prop := MpAt w' b Ks ∧ ArrAt w' g P ∧ w.grownBy w' none

end Go.Proofs.Ytpakihjkjdanlaa
